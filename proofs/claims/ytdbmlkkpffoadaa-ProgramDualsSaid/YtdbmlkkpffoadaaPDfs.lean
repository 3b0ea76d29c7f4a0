/- Layer 5: the reference's Valid and Same. Layer 5: the reference's Same. Layer 5: the reference's Dual. Layer 5: the law ProgramDuals, walked. -/
import Derived.Test.YtdbmlkkpffoadaaPSums
import Derived.Test.YtdbmlkkpffoadaaPDua
import Derived.Test.YtdbmlkkpffoadaaPBts
namespace Go.Proofs.Ytdbmlkkpffoadaa
set_option linter.unusedVariables false
open Go.RowKit Go.Shelf

theorem rpWithin_v (n most : Int) (v : Bool) (hv : decide (-most ≤ n ∧ n ≤ most) = v) (w : World) (m0 : 0 ≤ most) (m1 : most ≤ 1073741824) :
    Calls Try.prog 29 #[.int .i64 n, .int .i64 most] w fun e w' => e = .returned (.bool v) ∧ Below w.heap.size w w' := by
  have wn : IntKind.i64.wrap (0 - most) = -most := by rw [IntWalk.i64_in _ (by omega)]; omega
  have wn2 : IntKind.i64.wrap (-most) = -most := IntWalk.i64_in _ (by omega)
  by_cases h1 : -most ≤ n
  · by_cases h2 : n ≤ most
    · have HD : Hid (v = true) := hv.symm.trans (decide_eq_true ⟨h1, h2⟩)
      clear hv
      go_enter Try.func29, Try.ntmps29
      go_wp2_with fail
      go_ret
      exact ⟨by rw [HD.out]; rfl, Below.refl _ _⟩
    · have HD : Hid (v = false) := hv.symm.trans (decide_eq_false fun h => h2 h.2)
      clear hv
      go_enter Try.func29, Try.ntmps29
      go_wp2_with fail
      go_ret
      exact ⟨by rw [HD.out]; rfl, Below.refl _ _⟩
  · have HD : Hid (v = false) := hv.symm.trans (decide_eq_false fun h => h1 h.1)
    clear hv
    go_enter Try.func29, Try.ntmps29
    go_wp2_with fail
    go_ret
    exact ⟨by rw [HD.out]; rfl, Below.refl _ _⟩
theorem not_ok_false {p : PgD} {v : Bool} (hv : v = true ↔ p.Ok) (h : ¬ p.Ok) : v = false := by
  cases v
  · rfl
  · exact absurd (hv.1 rfl) h

set_option maxRecDepth 100000 in
set_option maxHeartbeats 16000000 in
theorem rpValid_any (p : PgD) (hs : p.Sm) (v : Bool) (hv : v = true ↔ p.Ok) (w : World) (hp : p.At w) :
    Calls Try.prog 10 #[p.val] w fun e w' => e = .returned (.bool v) ∧ Below w.heap.size w w' := by
  unfold PgD.val
  have HP := Lib.hid hp
  have HV := Lib.hid hv
  have HS := Lib.hid hs
  have hn9 := hs.n
  have hm9 := hs.m
  have hb1 : Below w.heap.size w (w.alloc (Obj.cells #[Value.slice p.ca p.n p.cc, .slice p.ra p.m p.rc] 25)) := (Below.refl _ _).alloc (Nat.le_refl _) _
  obtain ⟨w1, hw1⟩ : ∃ W, W = w.alloc (Obj.cells #[Value.slice p.ca p.n p.cc, .slice p.ra p.m p.rc] 25) := ⟨_, rfl⟩
  obtain ⟨xb, hxb⟩ : ∃ x, x = w.heap.size := ⟨_, rfl⟩
  have hB : Blk w1 xb (.slice p.ca p.n p.cc) (.slice p.ra p.m p.rc) := by rw [hw1, hxb]; exact Blk.new _ _ _ _
  rw [← hw1] at hb1
  have HB := Lib.hid hb1
  have HXB := Lib.hid hB
  clear hb1 hB hp hv hs
  go_enter Try.func10, Try.ntmps10
  go_upto_region 1 with fail
  rw [← hxb, ← hw1]
  clear hxb hw1
  have q0 := HXB.out.2.1
  have q1 := HXB.out.2.2
  by_cases h1 : 1 ≤ p.n
  case neg =>
    have t1 : (p.n : Int) < 1 := by omega
    have d1 : decide ((p.n : Int) < 1) = true := decide_eq_true t1
    have HN := Lib.hid (not_ok_false HV.out fun h => h1 h.n1)
    clear h1
    go_wp2_with fail
    go_ret
    exact ⟨by rw [HN.out]; rfl, HB.out⟩
  have t1 : ¬ (p.n : Int) < 1 := by omega
  have d1 : decide ((p.n : Int) < 1) = false := decide_eq_false t1
  by_cases h2 : p.n ≤ 12
  case neg =>
    have t2 : (12 : Int) < (p.n : Int) := by omega
    have d2 : decide ((12 : Int) < (p.n : Int)) = true := decide_eq_true t2
    have HN := Lib.hid (not_ok_false HV.out fun h => h2 h.n2)
    clear h1 h2
    go_wp2_with fail
    go_ret
    exact ⟨by rw [HN.out]; rfl, HB.out⟩
  have t2 : ¬ (12 : Int) < (p.n : Int) := by omega
  have d2 : decide ((12 : Int) < (p.n : Int)) = false := decide_eq_false t2
  by_cases h3 : p.m ≤ 6
  case neg =>
    have t3 : (6 : Int) < (p.m : Int) := by omega
    have d3 : decide ((6 : Int) < (p.m : Int)) = true := decide_eq_true t3
    have HN := Lib.hid (not_ok_false HV.out fun h => h3 h.m2)
    clear h1 h2 h3
    go_wp2_with fail
    go_ret
    exact ⟨by rw [HN.out]; rfl, HB.out⟩
  have t3 : ¬ (6 : Int) < (p.m : Int) := by omega
  have d3 : decide ((6 : Int) < (p.m : Int)) = false := decide_eq_false t3
  go_wp2_with fail
  clear q0 q1 t1 t2 t3 d1 d2 d3
  have S0 : Hid (Below w.heap.size w w1 ∧ Blk w1 xb (.slice p.ca p.n p.cc) (.slice p.ra p.m p.rc) ∧ ∀ l, l < 0 → -1048576 ≤ p.C l ∧ p.C l ≤ 1048576) := ⟨HB.out, HXB.out, fun l h => by omega⟩
  clear HB HXB
  go_loopg [3] p.n (fun g s3 wx => ∃ j : Nat, s3 = .int .i64 j ∧ g = p.n - j ∧ j ≤ p.n ∧ Hid (Below w.heap.size w wx ∧ Blk wx xb (.slice p.ca p.n p.cc) (.slice p.ra p.m p.rc) ∧ ∀ l, l < j → -1048576 ≤ p.C l ∧ p.C l ≤ 1048576))
  case atStart => exact ⟨0, rfl, rfl, Nat.zero_le _, S0⟩
  case round =>
    clear S0
    obtain ⟨j, rfl, rfl, hj, S⟩ := hrel
    rename World => W1
    have q0 := S.out.2.1.2.1
    by_cases hlt : j < p.n
    · have wk : IntKind.i64.wrap ((j : Int) + 1) = ((j + 1 : Nat) : Int) := by rw [IntWalk.i64_in _ (by omega)]; omega
      obtain ⟨cg, co, ec, hcg, hcr⟩ := (HP.out.on S.out.1).cost (by omega)
      have p1 := hcr j hlt
      obtain ⟨z, hz⟩ : ∃ x, p.C j = x := ⟨_, rfl⟩
      rw [hz] at p1
      obtain ⟨tb, htb⟩ : ∃ x, decide (-1048576 ≤ z ∧ z ≤ 1048576) = x := ⟨_, rfl⟩
      have CI0 := fun W => rpWithin_v z 1048576 _ htb W (by omega) (by omega)
      have CI := fun W => Lib.hid (CI0 W)
      have HZ := Lib.hid hz
      have HTB := Lib.hid htb
      clear hcr hcg hz htb CI0
      rw [ec]
      rw [ec] at q0
      go_wp2_with fail
      (with_reducible refine (((CI _).out).mono ?_))
      rintro e w2 ⟨rfl, hb⟩
      have HB2 := Lib.hid hb
      clear CI p1 q0 hb
      cases tb
      · have HN := Lib.hid (not_ok_false HV.out fun h => of_decide_eq_false HTB.out (by rw [← HZ.out]; exact h.c j hlt))
        go_wp2_with fail
        go_ret
        exact ⟨by rw [HN.out]; rfl, below_on S.out.1 HB2.out⟩
      · have T : Hid (Below w.heap.size w w2 ∧ Blk w2 xb (.slice p.ca p.n p.cc) (.slice p.ra p.m p.rc) ∧ ∀ l, l < j + 1 → -1048576 ≤ p.C l ∧ p.C l ≤ 1048576) := ⟨below_on S.out.1 HB2.out, S.out.2.1.on HB2.out, fun l hl => by
          by_cases e : l = j
          · rw [e, HZ.out]; exact of_decide_eq_true HTB.out
          · exact S.out.2.2 l (by omega)⟩
        clear S HB2 HTB HZ
        go_wp2_with fail
        rw [← ec]
        go_roundg (p.n - (j + 1))
        case measure => omega
        case rel => exact ⟨j + 1, rfl, rfl, by omega, T⟩
    · have e : j = p.n := by omega
      subst e
      have HC := Lib.hid S.out.2.2
      have S0 : Hid (Below w.heap.size w W1 ∧ Blk W1 xb (.slice p.ca p.n p.cc) (.slice p.ra p.m p.rc) ∧ ∀ i, i < 0 → p.Ln i = p.n ∧ (1 ≤ p.Kd i ∧ p.Kd i ≤ 3) ∧ (-1073741824 ≤ p.Rt i ∧ p.Rt i ≤ 1073741824) ∧ ∀ l, l < p.n → -1048576 ≤ p.Z i l ∧ p.Z i l ≤ 1048576) := ⟨S.out.1, S.out.2.1, fun l h => by omega⟩
      clear S hlt hj
      go_wp2_with fail
      clear q0
      go_loopg [4] p.m (fun g s4 wx => ∃ i : Nat, s4 = .int .i64 i ∧ g = p.m - i ∧ i ≤ p.m ∧ Hid (Below w.heap.size w wx ∧ Blk wx xb (.slice p.ca p.n p.cc) (.slice p.ra p.m p.rc) ∧ ∀ l, l < i → p.Ln l = p.n ∧ (1 ≤ p.Kd l ∧ p.Kd l ≤ 3) ∧ (-1073741824 ≤ p.Rt l ∧ p.Rt l ≤ 1073741824) ∧ ∀ k, k < p.n → -1048576 ≤ p.Z l k ∧ p.Z l k ≤ 1048576))
      case atStart => exact ⟨0, rfl, rfl, Nat.zero_le _, S0⟩
      case round =>
        clear S0
        obtain ⟨i, rfl, rfl, hi, S⟩ := hrel
        rename World => W2
        have q1 := S.out.2.1.2.2
        by_cases hlt : i < p.m
        · have wk : IntKind.i64.wrap ((i : Int) + 1) = ((i + 1 : Nat) : Int) := by rw [IntWalk.i64_in _ (by omega)]; omega
          obtain ⟨gr, gro, er, hgr, hrow⟩ := (HP.out.on S.out.1).rows (by omega)
          have hri := hrow i hlt
          have p1 := hri.1
          have p2 := hri.2.1
          have p3 := hri.2.2
          have HER := Lib.hid er
          have hln9 := HS.out.l i hlt
          obtain ⟨kd, hkd⟩ : ∃ x, p.Kd i = x := ⟨_, rfl⟩
          obtain ⟨rt, hrt⟩ : ∃ x, p.Rt i = x := ⟨_, rfl⟩
          obtain ⟨ln, hln⟩ : ∃ x, p.Ln i = x := ⟨_, rfl⟩
          rw [hkd] at p2
          rw [hrt] at p3
          rw [hln] at p1 hln9
          rw [er] at q1
          rw [er]
          have HI := Lib.hid (And.intro hkd (And.intro hrt hln))
          clear hrow hri hkd hrt hln er hgr
          go_upto_region 12 with fail
          obtain ⟨rb, hrb⟩ : ∃ x, x = W2.heap.size := ⟨_, rfl⟩
          obtain ⟨W3, hW3⟩ : ∃ V, V = W2.alloc (Obj.cells #[Value.slice (p.Ca i) ln (p.Kc i), Value.int IntKind.i64 kd, Value.int IntKind.i64 rt] 50) := ⟨_, rfl⟩
          rw [← hrb, ← hW3]
          have hb2 : Below W2.heap.size W2 W3 := by rw [hW3]; exact (Below.refl _ _).alloc (Nat.le_refl _) _
          have hr2 : EBlk W3 rb (.slice (p.Ca i) ln (p.Kc i)) (.int .i64 kd) (.int .i64 rt) := by
            rw [hW3, hrb]
            exact ⟨by simp, by simp [go_sem], by simp [go_sem], by simp [go_sem], by simp [go_sem], by simp [go_sem], by simp [go_sem]⟩
          have HE := Lib.hid hr2
          have HB3 := Lib.hid (below_on S.out.1 hb2)
          have HX3 := Lib.hid (S.out.2.1.on hb2)
          have HSL := Lib.hid S.out.2.2
          clear hb2 hW3 hrb p1 p2 p3 q1 S hr2
          have k0 := HE.out.c0
          have k1 := HE.out.c1
          have k2 := HE.out.c2
          have q0 := HX3.out.2.1
          by_cases hL : ln = p.n
          case neg =>
            have t1 : ((ln : Int) != (p.n : Int)) = true := by simp; omega
            have t2 : ¬ ((ln : Int) = (p.n : Int)) := by omega
            have HN := Lib.hid (not_ok_false HV.out fun h => hL (by rw [← HI.out.2.2]; exact h.l i hlt))
            clear hL
            go_wp2_with fail
            go_ret
            exact ⟨by rw [HN.out]; rfl, HB3.out⟩
          have HL := Lib.hid hL
          rw [hL] at k0
          clear hL
          by_cases hK1 : kd < 1
          case pos =>
            have t1 : decide (kd < 1) = true := decide_eq_true hK1
            have HN := Lib.hid (not_ok_false HV.out fun h => by have := h.k i hlt; have := HI.out.1; omega)
            go_wp2_with fail
            go_ret
            exact ⟨by rw [HN.out]; rfl, HB3.out⟩
          have t1 : decide (kd < 1) = false := decide_eq_false hK1
          by_cases hK3 : 3 < kd
          case pos =>
            have t3 : decide (3 < kd) = true := decide_eq_true hK3
            have HN := Lib.hid (not_ok_false HV.out fun h => by have := h.k i hlt; have := HI.out.1; omega)
            go_wp2_with fail
            go_ret
            exact ⟨by rw [HN.out]; rfl, HB3.out⟩
          have t3 : decide (3 < kd) = false := decide_eq_false hK3
          obtain ⟨tb, htb⟩ : ∃ x, decide (-1073741824 ≤ rt ∧ rt ≤ 1073741824) = x := ⟨_, rfl⟩
          have CI0 := fun W => rpWithin_v rt 1073741824 _ htb W (by omega) (by omega)
          have CI := fun W => Lib.hid (CI0 W)
          have HTB := Lib.hid htb
          clear htb CI0
          go_wp2_with fail
          (with_reducible refine (((CI _).out).mono ?_))
          rintro e w4 ⟨rfl, hb⟩
          have HE := Lib.hid (HE.out.on hb)
          have HB3 := Lib.hid (below_on HB3.out hb)
          have HX3 := Lib.hid (HX3.out.on hb)
          have HK := Lib.hid (And.intro hK1 hK3)
          clear CI hb k0 k1 k2 q0 t1 t3 hK1 hK3
          cases tb
          · have HN := Lib.hid (not_ok_false HV.out fun h => of_decide_eq_false HTB.out (by rw [← HI.out.2.1]; exact h.r i hlt))
            go_wp2_with fail
            go_ret
            exact ⟨by rw [HN.out]; rfl, HB3.out⟩
          have S0 : Hid (Below w.heap.size w w4 ∧ Blk w4 xb (.slice p.ca p.n p.cc) (.slice p.ra p.m p.rc) ∧ EBlk w4 rb (.slice (p.Ca i) p.n (p.Kc i)) (.int .i64 kd) (.int .i64 rt) ∧ ∀ l, l < 0 → -1048576 ≤ p.Z i l ∧ p.Z i l ≤ 1048576) := ⟨HB3.out, HX3.out, by rw [← HL.out]; exact HE.out, fun l h => by omega⟩
          clear HB3 HX3 HE
          go_wp2_with fail
          go_loopg [6] p.n (fun g s6 wx => ∃ j : Nat, s6 = .int .i64 j ∧ g = p.n - j ∧ j ≤ p.n ∧ Hid (Below w.heap.size w wx ∧ Blk wx xb (.slice p.ca p.n p.cc) (.slice p.ra p.m p.rc) ∧ EBlk wx rb (.slice (p.Ca i) p.n (p.Kc i)) (.int .i64 kd) (.int .i64 rt) ∧ ∀ l, l < j → -1048576 ≤ p.Z i l ∧ p.Z i l ≤ 1048576))
          case atStart => exact ⟨0, rfl, rfl, Nat.zero_le _, S0⟩
          case round =>
            clear S0
            obtain ⟨j, rfl, rfl, hj, S⟩ := hrel
            rename World => W5
            have k0 := S.out.2.2.1.c0
            by_cases hjl : j < p.n
            · have wkj : IntKind.i64.wrap ((j : Int) + 1) = ((j + 1 : Nat) : Int) := by rw [IntWalk.i64_in _ (by omega)]; omega
              have hir := (HP.out.on S.out.1).coef i hlt
              rw [HI.out.2.2, HL.out] at hir
              obtain ⟨cg, co, ec, hcg, hcr⟩ := hir (by omega)
              have p1 := hcr j hjl
              obtain ⟨z, hz⟩ : ∃ x, p.Z i j = x := ⟨_, rfl⟩
              rw [hz] at p1
              obtain ⟨tc, htc⟩ : ∃ x, decide (-1048576 ≤ z ∧ z ≤ 1048576) = x := ⟨_, rfl⟩
              have CI0 := fun W => rpWithin_v z 1048576 _ htc W (by omega) (by omega)
              have CI := fun W => Lib.hid (CI0 W)
              have HZ := Lib.hid hz
              have HTC := Lib.hid htc
              clear hcr hcg hz htc CI0 hir
              rw [ec] at k0
              clear ec
              go_wp2_with fail
              (with_reducible refine (((CI _).out).mono ?_))
              rintro e w6 ⟨rfl, hb⟩
              have HB2 := Lib.hid hb
              clear CI p1 k0 hb
              cases tc
              · have HN := Lib.hid (not_ok_false HV.out fun h => of_decide_eq_false HTC.out (by rw [← HZ.out]; exact h.z i hlt j hjl))
                go_wp2_with fail
                go_ret
                exact ⟨by rw [HN.out]; rfl, below_on S.out.1 HB2.out⟩
              · have T : Hid (Below w.heap.size w w6 ∧ Blk w6 xb (.slice p.ca p.n p.cc) (.slice p.ra p.m p.rc) ∧ EBlk w6 rb (.slice (p.Ca i) p.n (p.Kc i)) (.int .i64 kd) (.int .i64 rt) ∧ ∀ l, l < j + 1 → -1048576 ≤ p.Z i l ∧ p.Z i l ≤ 1048576) := ⟨below_on S.out.1 HB2.out, S.out.2.1.on HB2.out, S.out.2.2.1.on HB2.out, fun l hl => by
                  by_cases e : l = j
                  · rw [e, HZ.out]; exact of_decide_eq_true HTC.out
                  · exact S.out.2.2.2 l (by omega)⟩
                clear S HB2 HTC HZ
                go_wp2_with fail
                go_roundg (p.n - (j + 1))
                case measure => omega
                case rel => exact ⟨j + 1, rfl, rfl, by omega, T⟩
            · have e : j = p.n := by omega
              subst e
              have T : Hid (Below w.heap.size w W5 ∧ Blk W5 xb (.slice p.ca p.n p.cc) (.slice p.ra p.m p.rc) ∧ ∀ l, l < i + 1 → p.Ln l = p.n ∧ (1 ≤ p.Kd l ∧ p.Kd l ≤ 3) ∧ (-1073741824 ≤ p.Rt l ∧ p.Rt l ≤ 1073741824) ∧ ∀ k, k < p.n → -1048576 ≤ p.Z l k ∧ p.Z l k ≤ 1048576) := ⟨S.out.1, S.out.2.1, fun l hl => by
                by_cases e : l = i
                · subst e
                  refine ⟨HI.out.2.2.trans HL.out, ?_, ?_, S.out.2.2.2⟩
                  · rw [HI.out.1]; have := HK.out; omega
                  · rw [HI.out.2.1]; exact of_decide_eq_true HTB.out
                · exact HSL.out l (by omega)⟩
              clear S HI HL HTB HSL HK
              go_wp2_with fail
              clear k0
              rw [← HER.out]
              go_roundg (p.m - (i + 1))
              case measure => omega
              case rel => exact ⟨i + 1, rfl, rfl, by omega, T⟩
        · have e : i = p.m := by omega
          subst e
          have HN : Hid (v = true) := HV.out.2 ⟨h1, h2, h3, HC.out, fun i hi => (S.out.2.2 i hi).1, fun i hi j hj => (S.out.2.2 i hi).2.2.2 j hj, fun i hi => (S.out.2.2 i hi).2.1, fun i hi => (S.out.2.2 i hi).2.2.1⟩
          go_wp2_with fail
          go_ret
          exact ⟨by rw [HN.out]; rfl, S.out.1⟩
end Go.Proofs.Ytdbmlkkpffoadaa

namespace Go.Proofs.Ytdbmlkkpffoadaa
set_option linter.unusedVariables false
open Go.RowKit Go.Shelf

/-- Two programs with the same numbers. -/
structure SameP (p q : PgD) : Prop where
  n : p.n = q.n
  m : p.m = q.m
  c : ∀ j, j < p.n → p.C j = q.C j
  k : ∀ i, i < p.m → p.Kd i = q.Kd i
  r : ∀ i, i < p.m → p.Rt i = q.Rt i
  l : ∀ i, i < p.m → p.Ln i = q.Ln i
  z : ∀ i, i < p.m → ∀ j, j < p.Ln i → p.Z i j = q.Z i j
theorem not_same_false {p q : PgD} {v : Bool} (hv : v = true ↔ SameP p q) (h : ¬ SameP p q) : v = false := by
  cases v
  · rfl
  · exact absurd (hv.1 rfl) h
structure Two (W : World) (xb yb : Nat) (p q : PgD) : Prop where
  x : Blk W xb (.slice p.ca p.n p.cc) (.slice p.ra p.m p.rc)
  y : Blk W yb (.slice q.ca q.n q.cc) (.slice q.ra q.m q.rc)
theorem Two.on {W W2 : World} {xb yb : Nat} {p q : PgD} (h : Two W xb yb p q) (hb : Below W.heap.size W W2) : Two W2 xb yb p q := ⟨h.x.on hb, h.y.on hb⟩

structure SmR (xb yb gr gro gs gso i pm prc qm qrc ln ln2 kc kc2 : Nat) (ca cb : Option Addr) (kd rt kd2 rt2 : Int) (Wc : World) (L : Nat → Bool) (v : Nat → Value) (g : Nat → Nat) (W : World) : Prop where
  st : Below Wc.heap.size Wc W
  f0 : Had L 0 (v 51 = .pointer (some ⟨xb, 1, none⟩))
  f1 : Had L 1 (v 52 = .slice (some ⟨gr, gro, none⟩) (pm) (prc))
  f2 : Had L 2 (v 53 = .int .i64 (i : Int))
  f3 : Had L 3 (v 54 = .pointer (some ⟨gr, gro + i * 3, none⟩))
  f4 : Had L 4 (v 55 = .agg #[.slice ca ln kc, .int .i64 kd, .int .i64 rt])
  f5 : Had L 5 (v 56 = .pointer (some ⟨yb, 1, none⟩))
  f6 : Had L 6 (v 57 = .slice (some ⟨gs, gso, none⟩) (qm) (qrc))
  f7 : Had L 7 (v 58 = .int .i64 (i : Int))
  f8 : Had L 8 (v 59 = .pointer (some ⟨gs, gso + i * 3, none⟩))
  f9 : Had L 9 (v 60 = .agg #[.slice cb ln2 kc2, .int .i64 kd2, .int .i64 rt2])
  f10 : Had L 10 (v 7 = .pointer (some ⟨g 10, 0, none⟩))
  b10 : Had L 10 (Wc.heap.size ≤ g 10 ∧ ∃ a b c, EBlk W (g 10) a b c)
  f11 : Had L 11 (v 8 = .pointer (some ⟨g 11, 0, none⟩))
  b11 : Had L 11 (Wc.heap.size ≤ g 11 ∧ ∃ a b c, EBlk W (g 11) a b c)
  t12 : Had L 12 (EBlk W (g 10) (.slice ca ln kc) (.int .i64 kd) (.int .i64 rt))
  t13 : Had L 13 (EBlk W (g 11) (.slice cb ln2 kc2) (.int .i64 kd2) (.int .i64 rt2))
  d : Had2 L 10 11 (g 10 ≠ g 11)
  w1 : Had L 1 (∀ j ∈ [0], L j = true)
  w3 : Had L 3 (∀ j ∈ [1, 2], L j = true)
  w4 : Had L 4 (∀ j ∈ [3], L j = true)
  w6 : Had L 6 (∀ j ∈ [5], L j = true)
  w8 : Had L 8 (∀ j ∈ [6, 7], L j = true)
  w9 : Had L 9 (∀ j ∈ [8], L j = true)
  w12 : Had L 12 (∀ j ∈ [0, 1, 2, 3, 4, 10, 11], L j = true)
  w13 : Had L 13 (∀ j ∈ [0, 1, 2, 3, 4, 5, 6, 7, 8, 9, 10, 11, 12], L j = true)

set_option maxRecDepth 100000 in
set_option maxHeartbeats 16000000 in
theorem rpSame_any (p q : PgD) (hs : p.Sm) (hs2 : q.Sm) (v : Bool) (hv : v = true ↔ SameP p q) (w : World) (hp : p.At w) (hq : q.At w) :
    Calls Try.prog 11 #[p.val, q.val] w fun e w' => e = .returned (.bool v) ∧ Below w.heap.size w w' := by
  unfold PgD.val
  have HP := Lib.hid hp
  have HQ := Lib.hid hq
  have HV := Lib.hid hv
  have HS := Lib.hid hs
  have hn9 := hs.n
  have hm9 := hs.m
  have hb1 : Below w.heap.size w (w.alloc (Obj.cells #[Value.slice p.ca p.n p.cc, .slice p.ra p.m p.rc] 25)) := (Below.refl _ _).alloc (Nat.le_refl _) _
  obtain ⟨w1, hw1⟩ : ∃ W, W = w.alloc (Obj.cells #[Value.slice p.ca p.n p.cc, .slice p.ra p.m p.rc] 25) := ⟨_, rfl⟩
  obtain ⟨xb, hxb⟩ : ∃ x, x = w.heap.size := ⟨_, rfl⟩
  have hB : Blk w1 xb (.slice p.ca p.n p.cc) (.slice p.ra p.m p.rc) := by rw [hw1, hxb]; exact Blk.new _ _ _ _
  rw [← hw1] at hb1
  have hb2 : Below w1.heap.size w1 (w1.alloc (Obj.cells #[Value.slice q.ca q.n q.cc, .slice q.ra q.m q.rc] 25)) := (Below.refl _ _).alloc (Nat.le_refl _) _
  obtain ⟨w2, hw2⟩ : ∃ W, W = w1.alloc (Obj.cells #[Value.slice q.ca q.n q.cc, .slice q.ra q.m q.rc] 25) := ⟨_, rfl⟩
  obtain ⟨yb, hyb⟩ : ∃ x, x = xb + 1 := ⟨_, rfl⟩
  have hyw : yb = w1.heap.size := by rw [hyb, hw1, hxb]; simp
  have hY : Blk w2 yb (.slice q.ca q.n q.cc) (.slice q.ra q.m q.rc) := by rw [hw2, hyw]; exact Blk.new _ _ _ _
  rw [← hw2] at hb2
  have HB := Lib.hid (below_on hb1 hb2)
  have HT : Hid (Two w2 xb yb p q) := ⟨hB.on hb2, hY⟩
  clear hb1 hb2 hB hY hp hq hv hs hs2
  go_enter Try.func11, Try.ntmps11
  go_upto_region 1 with fail
  rw [← hxb, ← hw1, ← hyb, ← hw2]
  clear hxb hw1 hyb hyw hw2
  have q0 := HT.out.x.2.1
  have q1 := HT.out.x.2.2
  have q2 := HT.out.y.2.1
  have q3 := HT.out.y.2.2
  by_cases hn : p.n = q.n
  case neg =>
    have t1 : ((p.n : Int) != (q.n : Int)) = true := by simp; omega
    have t2 : ¬ ((p.n : Int) = (q.n : Int)) := by omega
    have HN := Lib.hid (not_same_false HV.out fun h => hn h.n)
    clear hn
    go_wp2_with fail
    go_ret
    exact ⟨by rw [HN.out]; rfl, HB.out⟩
  by_cases hm : p.m = q.m
  case neg =>
    have t1 : ((p.m : Int) != (q.m : Int)) = true := by simp; omega
    have t2 : ¬ ((p.m : Int) = (q.m : Int)) := by omega
    have t3 : ((p.n : Int) != (q.n : Int)) = false := by simp [hn]
    have t4 : (p.n : Int) = (q.n : Int) := by omega
    have HN := Lib.hid (not_same_false HV.out fun h => hm h.m)
    clear hn hm
    go_wp2_with fail
    go_ret
    exact ⟨by rw [HN.out]; rfl, HB.out⟩
  have HNE := Lib.hid hn
  have HME := Lib.hid hm
  have t1 : ((p.m : Int) != (q.m : Int)) = false := by simp [hm]
  have t2 : ((p.n : Int) != (q.n : Int)) = false := by simp [hn]
  clear hn hm
  go_wp2_with fail
  clear t1 t2 q0 q1 q2 q3
  have S0 : Hid (Two w2 xb yb p q ∧ Below w.heap.size w w2 ∧ ∀ l, l < 0 → p.C l = q.C l) := ⟨HT.out, HB.out, fun l h => by omega⟩
  clear HT HB
  go_loopg [5] p.n (fun g s5 wx => ∃ j : Nat, s5 = .int .i64 j ∧ g = p.n - j ∧ j ≤ p.n ∧ Hid (Two wx xb yb p q ∧ Below w.heap.size w wx ∧ ∀ l, l < j → p.C l = q.C l))
  case atStart => exact ⟨0, rfl, rfl, Nat.zero_le _, S0⟩
  case round =>
    clear S0
    obtain ⟨j, rfl, rfl, hj, S⟩ := hrel
    rename World => W1
    have q0 := S.out.1.x.2.1
    have q2 := S.out.1.y.2.1
    by_cases hlt : j < p.n
    · have wk : IntKind.i64.wrap ((j : Int) + 1) = ((j + 1 : Nat) : Int) := by rw [IntWalk.i64_in _ (by omega)]; omega
      have hnq : j < q.n := by have := HNE.out; omega
      obtain ⟨cg, co, ec, hcg, hcr⟩ := (HP.out.on S.out.2.1).cost (by omega)
      obtain ⟨dg, dd, ed, hdg, hdr⟩ := (HQ.out.on S.out.2.1).cost (by omega)
      have p1 := hcr j hlt
      have p2 := hdr j hnq
      obtain ⟨z, hz⟩ : ∃ x, p.C j = x := ⟨_, rfl⟩
      obtain ⟨y, hy⟩ : ∃ x, q.C j = x := ⟨_, rfl⟩
      rw [hz] at p1
      rw [hy] at p2
      rw [ec] at q0
      rw [ed] at q2
      have HZ := Lib.hid hz
      have HY := Lib.hid hy
      clear hcr hcg hdr hdg hz hy ec ed
      go_upto_region 6 with fail
      by_cases hzy : z = y
      · have t1 : (z != y) = false := by simp [hzy]
        have HZY := Lib.hid hzy
        clear hzy
        go_quiet (fail)
        have HB2 : Hid (Below W1.heap.size W1 (W1.drewN nq)) := below_drewN' (Below.refl _ _) nq
        generalize W1.drewN nq = W2 at *
        have T : Hid (Two W2 xb yb p q ∧ Below w.heap.size w W2 ∧ ∀ l, l < j + 1 → p.C l = q.C l) := ⟨S.out.1.on HB2.out, below_on S.out.2.1 HB2.out, fun l hl => by
          by_cases e : l = j
          · rw [e, HZ.out, HY.out]; exact HZY.out
          · exact S.out.2.2 l (by omega)⟩
        clear S HB2 HZ HY HZY p1 p2 q0 q2 t1 hnq
        go_wp2_with fail
        go_roundg (p.n - (j + 1))
        case measure => omega
        case rel => exact ⟨j + 1, rfl, rfl, by omega, T⟩
      · have t1 : (z != y) = true := by simpa using hzy
        have HN := Lib.hid (not_same_false HV.out fun h => hzy (by rw [← HZ.out, ← HY.out]; exact h.c j hlt))
        clear hzy
        go_quiet (fail)
        have HB2 : Hid (Below W1.heap.size W1 (W1.drewN nq)) := below_drewN' (Below.refl _ _) nq
        generalize W1.drewN nq = W2 at *
        clear p1 p2 q0 q2 t1
        go_wp2_with fail
        go_ret
        exact ⟨by rw [HN.out]; rfl, below_on S.out.2.1 HB2.out⟩
    · have e : j = p.n := by omega
      subst e
      have HC := Lib.hid S.out.2.2
      have S0 : Hid (Two W1 xb yb p q ∧ Below w.heap.size w W1 ∧ ∀ l, l < 0 → p.Kd l = q.Kd l ∧ p.Rt l = q.Rt l ∧ p.Ln l = q.Ln l ∧ ∀ k, k < p.Ln l → p.Z l k = q.Z l k) := ⟨S.out.1, S.out.2.1, fun l h => by omega⟩
      clear S hlt hj
      go_wp2_with fail
      clear q0 q2
      go_loopg [6] p.m (fun g s6 wx => ∃ i : Nat, s6 = .int .i64 i ∧ g = p.m - i ∧ i ≤ p.m ∧ Hid (Two wx xb yb p q ∧ Below w.heap.size w wx ∧ ∀ l, l < i → p.Kd l = q.Kd l ∧ p.Rt l = q.Rt l ∧ p.Ln l = q.Ln l ∧ ∀ k, k < p.Ln l → p.Z l k = q.Z l k))
      case atStart => exact ⟨0, rfl, rfl, Nat.zero_le _, S0⟩
      case round =>
        clear S0
        obtain ⟨i, rfl, rfl, hi, S⟩ := hrel
        rename World => W1
        have q1 := S.out.1.x.2.2
        have q3 := S.out.1.y.2.2
        by_cases hlt : i < p.m
        · have wk : IntKind.i64.wrap ((i : Int) + 1) = ((i + 1 : Nat) : Int) := by rw [IntWalk.i64_in _ (by omega)]; omega
          have hmq : i < q.m := by have := HME.out; omega
          obtain ⟨gr, gro, er, hgr, hrow⟩ := (HP.out.on S.out.2.1).rows (by omega)
          obtain ⟨gs, gso, es, hgs, hsow⟩ := (HQ.out.on S.out.2.1).rows (by omega)
          have p1 := (hrow i hlt).1
          have p2 := (hrow i hlt).2.1
          have p3 := (hrow i hlt).2.2
          have r1 := (hsow i hmq).1
          have r2 := (hsow i hmq).2.1
          have r3 := (hsow i hmq).2.2
          have hln9 := HS.out.l i hlt
          obtain ⟨kd, hkd⟩ : ∃ x, p.Kd i = x := ⟨_, rfl⟩
          obtain ⟨rt, hrt⟩ : ∃ x, p.Rt i = x := ⟨_, rfl⟩
          obtain ⟨ln, hln⟩ : ∃ x, p.Ln i = x := ⟨_, rfl⟩
          obtain ⟨kd2, hkd2⟩ : ∃ x, q.Kd i = x := ⟨_, rfl⟩
          obtain ⟨rt2, hrt2⟩ : ∃ x, q.Rt i = x := ⟨_, rfl⟩
          obtain ⟨ln2, hln2⟩ : ∃ x, q.Ln i = x := ⟨_, rfl⟩
          rw [hln] at p1 hln9
          rw [hkd] at p2
          rw [hrt] at p3
          rw [hln2] at r1
          rw [hkd2] at r2
          rw [hrt2] at r3
          rw [er] at q1
          rw [es] at q3
          have HI := Lib.hid (And.intro hkd (And.intro hrt hln))
          have HJ := Lib.hid (And.intro hkd2 (And.intro hrt2 hln2))
          have lq : (i : Int) < (q.m : Int) := by omega
          have HBW := Lib.hid S.out.2.1
          have HTW := Lib.hid S.out.1
          have HSL := Lib.hid S.out.2.2
          clear hrow hsow hkd hrt hln hkd2 hrt2 hln2 er es S
          go_upto_region 11 with fail
          have LX : Hid (W1.cell? ⟨xb, 1, none⟩ = some (.slice (some ⟨gr, gro, none⟩) p.m p.rc) ∧ xb < W1.heap.size) := ⟨q1, HTW.out.x.1⟩
          have LY : Hid (W1.cell? ⟨yb, 1, none⟩ = some (.slice (some ⟨gs, gso, none⟩) q.m q.rc) ∧ yb < W1.heap.size) := ⟨q3, HTW.out.y.1⟩
          have LA0 : Hid (W1.cell? ⟨gr, gro + i * 3, none⟩ = some (.slice (p.Ca i) ln (p.Kc i)) ∧ gr < W1.heap.size) := ⟨p1, hgr⟩
          have LA1 : Hid (W1.cell? ⟨gr, gro + i * 3 + 1, none⟩ = some (.int .i64 kd) ∧ gr < W1.heap.size) := ⟨p2, hgr⟩
          have LA2 : Hid (W1.cell? ⟨gr, gro + i * 3 + 2, none⟩ = some (.int .i64 rt) ∧ gr < W1.heap.size) := ⟨p3, hgr⟩
          have LB0 : Hid (W1.cell? ⟨gs, gso + i * 3, none⟩ = some (.slice (q.Ca i) ln2 (q.Kc i)) ∧ gs < W1.heap.size) := ⟨r1, hgs⟩
          have LB1 : Hid (W1.cell? ⟨gs, gso + i * 3 + 1, none⟩ = some (.int .i64 kd2) ∧ gs < W1.heap.size) := ⟨r2, hgs⟩
          have LB2 : Hid (W1.cell? ⟨gs, gso + i * 3 + 2, none⟩ = some (.int .i64 rt2) ∧ gs < W1.heap.size) := ⟨r3, hgs⟩
          have lp : (i : Int) < (p.m : Int) := by omega
          clear q1 q3 p1 p2 p3 r1 r2 r3 hgr hgs
          refine wp_region_each (fun L A W => ∃ (v : Nat → Value) (g : Nat → Nat), A = ⟨#[_, _, _, _, _, _, _, v 7, v 8, _, _, _, _, _, _, _, _, _, _, _, _, _, _, _, _, _, _, _, _, _, _, _, _, _, _, _, _, _, _, _, _, _, _, _, _, _, _, _, _, _, _, v 51, v 52, v 53, v 54, v 55, v 56, v 57, v 58, v 59, v 60, _, _, _, _, _, _, _, _, _, _, _, _, _, _, _, _, _, _, _, _, _, _, _, _, _, _, _, _, _, _, _, _, _, _, _, _, _, _, _], []⟩ ∧ SmR xb yb gr gro gs gso i p.m p.rc q.m q.rc ln ln2 (p.Kc i) (q.Kc i) (p.Ca i) (q.Ca i) kd rt kd2 rt2 W1 L v g W) (by kernel_rfl) (by kernel_rfl) ⟨fun jz => if jz = 51 then u51 else if jz = 52 then u52 else if jz = 53 then u53 else if jz = 54 then u54 else if jz = 55 then u55 else if jz = 56 then u56 else if jz = 57 then u57 else if jz = 58 then u58 else if jz = 59 then u59 else if jz = 60 then u60 else if jz = 7 then u7 else if jz = 8 then u8 else undef, fun _ => 0, rfl, ⟨Below.drew (Below.refl _ _), Had.none, Had.none, Had.none, Had.none, Had.none, Had.none, Had.none, Had.none, Had.none, Had.none, Had.none, Had.none, Had.none, Had.none, Had.none, Had.none, (fun h => by cases h), Had.none, Had.none, Had.none, Had.none, Had.none, Had.none, Had.none, Had.none⟩⟩ (rs := [0, 1, 2, 3, 4, 5, 6, 7, 8, 9, 10, 11, 12, 13]) (by kernel_rfl) ?_ ?_
          · refine EachOf.cons [] rfl (by kernel_rfl) ?_ ?_
            · rintro L A W ⟨v, g, rfl, hR⟩ hi hw K hK
              go_simp
              refine hK.out _ _ ?_
              exact ⟨(fun jz => if jz = 51 then .pointer (some ⟨xb, 1, none⟩) else v jz), g, rfl, ⟨hR.st, (fun _ => rfl), hR.f1.k rfl, hR.f2.k rfl, hR.f3.k rfl, hR.f4.k rfl, hR.f5.k rfl, hR.f6.k rfl, hR.f7.k rfl, hR.f8.k rfl, hR.f9.k rfl, hR.f10.k rfl, hR.b10.k rfl, hR.f11.k rfl, hR.b11.k rfl, hR.t12.k rfl, hR.t13.k rfl, hR.d.keep rfl rfl, hR.w1.o rfl, hR.w3.o rfl, hR.w4.o rfl, hR.w6.o rfl, hR.w8.o rfl, hR.w9.o rfl, hR.w12.o rfl, hR.w13.o rfl⟩⟩
            refine EachOf.cons [0] rfl (by kernel_rfl) ?_ ?_
            · rintro L A W ⟨v, g, rfl, hR⟩ hi hw K hK
              have e0 := hR.f0 (hw 0 (by simp))
              simp only [e0]
              clear e0
              have q0 := (hR.st.cell (p := ⟨xb, 1, none⟩) LX.out.2).trans LX.out.1
              go_simp
              refine hK.out _ _ ?_
              exact ⟨(fun jz => if jz = 51 then .pointer (some ⟨xb, 1, none⟩) else if jz = 52 then .slice (some ⟨gr, gro, none⟩) (p.m) (p.rc) else v jz), g, rfl, ⟨hR.st, (fun _ => rfl), (fun _ => rfl), hR.f2.k rfl, hR.f3.k rfl, hR.f4.k rfl, hR.f5.k rfl, hR.f6.k rfl, hR.f7.k rfl, hR.f8.k rfl, hR.f9.k rfl, hR.f10.k rfl, hR.b10.k rfl, hR.f11.k rfl, hR.b11.k rfl, hR.t12.k rfl, hR.t13.k rfl, hR.d.keep rfl rfl, (fun _ j hj => upd_on (hw j hj)), hR.w3.o rfl, hR.w4.o rfl, hR.w6.o rfl, hR.w8.o rfl, hR.w9.o rfl, hR.w12.o rfl, hR.w13.o rfl⟩⟩
            refine EachOf.cons [] rfl (by kernel_rfl) ?_ ?_
            · rintro L A W ⟨v, g, rfl, hR⟩ hi hw K hK
              go_simp
              refine hK.out _ _ ?_
              exact ⟨(fun jz => if jz = 53 then .int .i64 (i : Int) else v jz), g, rfl, ⟨hR.st, hR.f0.k rfl, hR.f1.k rfl, (fun _ => rfl), hR.f3.k rfl, hR.f4.k rfl, hR.f5.k rfl, hR.f6.k rfl, hR.f7.k rfl, hR.f8.k rfl, hR.f9.k rfl, hR.f10.k rfl, hR.b10.k rfl, hR.f11.k rfl, hR.b11.k rfl, hR.t12.k rfl, hR.t13.k rfl, hR.d.keep rfl rfl, hR.w1.o rfl, hR.w3.o rfl, hR.w4.o rfl, hR.w6.o rfl, hR.w8.o rfl, hR.w9.o rfl, hR.w12.o rfl, hR.w13.o rfl⟩⟩
            refine EachOf.cons [1, 2] rfl (by kernel_rfl) ?_ ?_
            · rintro L A W ⟨v, g, rfl, hR⟩ hi hw K hK
              have e1 := hR.f1 (hw 1 (by simp))
              have e2 := hR.f2 (hw 2 (by simp))
              simp only [e1, e2]
              clear e1 e2
              go_simp
              refine hK.out _ _ ?_
              exact ⟨(fun jz => if jz = 52 then .slice (some ⟨gr, gro, none⟩) (p.m) (p.rc) else if jz = 53 then .int .i64 (i : Int) else if jz = 54 then .pointer (some ⟨gr, gro + i * 3, none⟩) else v jz), g, rfl, ⟨hR.st, hR.f0.k rfl, (fun _ => rfl), (fun _ => rfl), (fun _ => rfl), hR.f4.k rfl, hR.f5.k rfl, hR.f6.k rfl, hR.f7.k rfl, hR.f8.k rfl, hR.f9.k rfl, hR.f10.k rfl, hR.b10.k rfl, hR.f11.k rfl, hR.b11.k rfl, hR.t12.k rfl, hR.t13.k rfl, hR.d.keep rfl rfl, hR.w1.o rfl, (fun _ j hj => upd_on (hw j hj)), hR.w4.o rfl, hR.w6.o rfl, hR.w8.o rfl, hR.w9.o rfl, hR.w12.o rfl, hR.w13.o rfl⟩⟩
            refine EachOf.cons [3] rfl (by kernel_rfl) ?_ ?_
            · rintro L A W ⟨v, g, rfl, hR⟩ hi hw K hK
              have e3 := hR.f3 (hw 3 (by simp))
              simp only [e3]
              clear e3
              have q0 := (hR.st.cell (p := ⟨gr, gro + i * 3, none⟩) LA0.out.2).trans LA0.out.1
              have q1 := (hR.st.cell (p := ⟨gr, gro + i * 3 + 1, none⟩) LA1.out.2).trans LA1.out.1
              have q2 := (hR.st.cell (p := ⟨gr, gro + i * 3 + 2, none⟩) LA2.out.2).trans LA2.out.1
              go_simp
              refine hK.out _ _ ?_
              exact ⟨(fun jz => if jz = 54 then .pointer (some ⟨gr, gro + i * 3, none⟩) else if jz = 55 then .agg #[.slice (p.Ca i) ln (p.Kc i), .int .i64 kd, .int .i64 rt] else v jz), g, rfl, ⟨hR.st, hR.f0.k rfl, hR.f1.k rfl, hR.f2.k rfl, (fun _ => rfl), (fun _ => rfl), hR.f5.k rfl, hR.f6.k rfl, hR.f7.k rfl, hR.f8.k rfl, hR.f9.k rfl, hR.f10.k rfl, hR.b10.k rfl, hR.f11.k rfl, hR.b11.k rfl, hR.t12.k rfl, hR.t13.k rfl, hR.d.keep rfl rfl, hR.w1.o rfl, hR.w3.o rfl, (fun _ j hj => upd_on (hw j hj)), hR.w6.o rfl, hR.w8.o rfl, hR.w9.o rfl, hR.w12.o rfl, hR.w13.o rfl⟩⟩
            refine EachOf.cons [] rfl (by kernel_rfl) ?_ ?_
            · rintro L A W ⟨v, g, rfl, hR⟩ hi hw K hK
              go_simp
              refine hK.out _ _ ?_
              exact ⟨(fun jz => if jz = 56 then .pointer (some ⟨yb, 1, none⟩) else v jz), g, rfl, ⟨hR.st, hR.f0.k rfl, hR.f1.k rfl, hR.f2.k rfl, hR.f3.k rfl, hR.f4.k rfl, (fun _ => rfl), hR.f6.k rfl, hR.f7.k rfl, hR.f8.k rfl, hR.f9.k rfl, hR.f10.k rfl, hR.b10.k rfl, hR.f11.k rfl, hR.b11.k rfl, hR.t12.k rfl, hR.t13.k rfl, hR.d.keep rfl rfl, hR.w1.o rfl, hR.w3.o rfl, hR.w4.o rfl, hR.w6.o rfl, hR.w8.o rfl, hR.w9.o rfl, hR.w12.o rfl, hR.w13.o rfl⟩⟩
            refine EachOf.cons [5] rfl (by kernel_rfl) ?_ ?_
            · rintro L A W ⟨v, g, rfl, hR⟩ hi hw K hK
              have e5 := hR.f5 (hw 5 (by simp))
              simp only [e5]
              clear e5
              have q0 := (hR.st.cell (p := ⟨yb, 1, none⟩) LY.out.2).trans LY.out.1
              go_simp
              refine hK.out _ _ ?_
              exact ⟨(fun jz => if jz = 56 then .pointer (some ⟨yb, 1, none⟩) else if jz = 57 then .slice (some ⟨gs, gso, none⟩) (q.m) (q.rc) else v jz), g, rfl, ⟨hR.st, hR.f0.k rfl, hR.f1.k rfl, hR.f2.k rfl, hR.f3.k rfl, hR.f4.k rfl, (fun _ => rfl), (fun _ => rfl), hR.f7.k rfl, hR.f8.k rfl, hR.f9.k rfl, hR.f10.k rfl, hR.b10.k rfl, hR.f11.k rfl, hR.b11.k rfl, hR.t12.k rfl, hR.t13.k rfl, hR.d.keep rfl rfl, hR.w1.o rfl, hR.w3.o rfl, hR.w4.o rfl, (fun _ j hj => upd_on (hw j hj)), hR.w8.o rfl, hR.w9.o rfl, hR.w12.o rfl, hR.w13.o rfl⟩⟩
            refine EachOf.cons [] rfl (by kernel_rfl) ?_ ?_
            · rintro L A W ⟨v, g, rfl, hR⟩ hi hw K hK
              go_simp
              refine hK.out _ _ ?_
              exact ⟨(fun jz => if jz = 58 then .int .i64 (i : Int) else v jz), g, rfl, ⟨hR.st, hR.f0.k rfl, hR.f1.k rfl, hR.f2.k rfl, hR.f3.k rfl, hR.f4.k rfl, hR.f5.k rfl, hR.f6.k rfl, (fun _ => rfl), hR.f8.k rfl, hR.f9.k rfl, hR.f10.k rfl, hR.b10.k rfl, hR.f11.k rfl, hR.b11.k rfl, hR.t12.k rfl, hR.t13.k rfl, hR.d.keep rfl rfl, hR.w1.o rfl, hR.w3.o rfl, hR.w4.o rfl, hR.w6.o rfl, hR.w8.o rfl, hR.w9.o rfl, hR.w12.o rfl, hR.w13.o rfl⟩⟩
            refine EachOf.cons [6, 7] rfl (by kernel_rfl) ?_ ?_
            · rintro L A W ⟨v, g, rfl, hR⟩ hi hw K hK
              have e6 := hR.f6 (hw 6 (by simp))
              have e7 := hR.f7 (hw 7 (by simp))
              simp only [e6, e7]
              clear e6 e7
              go_simp
              refine hK.out _ _ ?_
              exact ⟨(fun jz => if jz = 57 then .slice (some ⟨gs, gso, none⟩) (q.m) (q.rc) else if jz = 58 then .int .i64 (i : Int) else if jz = 59 then .pointer (some ⟨gs, gso + i * 3, none⟩) else v jz), g, rfl, ⟨hR.st, hR.f0.k rfl, hR.f1.k rfl, hR.f2.k rfl, hR.f3.k rfl, hR.f4.k rfl, hR.f5.k rfl, (fun _ => rfl), (fun _ => rfl), (fun _ => rfl), hR.f9.k rfl, hR.f10.k rfl, hR.b10.k rfl, hR.f11.k rfl, hR.b11.k rfl, hR.t12.k rfl, hR.t13.k rfl, hR.d.keep rfl rfl, hR.w1.o rfl, hR.w3.o rfl, hR.w4.o rfl, hR.w6.o rfl, (fun _ j hj => upd_on (hw j hj)), hR.w9.o rfl, hR.w12.o rfl, hR.w13.o rfl⟩⟩
            refine EachOf.cons [8] rfl (by kernel_rfl) ?_ ?_
            · rintro L A W ⟨v, g, rfl, hR⟩ hi hw K hK
              have e8 := hR.f8 (hw 8 (by simp))
              simp only [e8]
              clear e8
              have q0 := (hR.st.cell (p := ⟨gs, gso + i * 3, none⟩) LB0.out.2).trans LB0.out.1
              have q1 := (hR.st.cell (p := ⟨gs, gso + i * 3 + 1, none⟩) LB1.out.2).trans LB1.out.1
              have q2 := (hR.st.cell (p := ⟨gs, gso + i * 3 + 2, none⟩) LB2.out.2).trans LB2.out.1
              go_simp
              refine hK.out _ _ ?_
              exact ⟨(fun jz => if jz = 59 then .pointer (some ⟨gs, gso + i * 3, none⟩) else if jz = 60 then .agg #[.slice (q.Ca i) ln2 (q.Kc i), .int .i64 kd2, .int .i64 rt2] else v jz), g, rfl, ⟨hR.st, hR.f0.k rfl, hR.f1.k rfl, hR.f2.k rfl, hR.f3.k rfl, hR.f4.k rfl, hR.f5.k rfl, hR.f6.k rfl, hR.f7.k rfl, (fun _ => rfl), (fun _ => rfl), hR.f10.k rfl, hR.b10.k rfl, hR.f11.k rfl, hR.b11.k rfl, hR.t12.k rfl, hR.t13.k rfl, hR.d.keep rfl rfl, hR.w1.o rfl, hR.w3.o rfl, hR.w4.o rfl, hR.w6.o rfl, hR.w8.o rfl, (fun _ j hj => upd_on (hw j hj)), hR.w12.o rfl, hR.w13.o rfl⟩⟩
            refine EachOf.cons [] rfl (by kernel_rfl) ?_ ?_
            · rintro L A W ⟨v, g, rfl, hR⟩ hi hw K hK
              have hb : Below W.heap.size W (W.alloc (Obj.cells #[Value.slice none 0 0, Value.int IntKind.i64 0, Value.int IntKind.i64 0] 50)) := (Below.refl _ _).alloc (Nat.le_refl _) (Obj.cells #[Value.slice none 0 0, Value.int IntKind.i64 0, Value.int IntKind.i64 0] 50)
              have hk12 : L 12 = false := hR.w12.not hi rfl
              have hE : EBlk (W.alloc (Obj.cells #[Value.slice none 0 0, Value.int IntKind.i64 0, Value.int IntKind.i64 0] 50)) W.heap.size (.slice none 0 0) (.int .i64 0) (.int .i64 0) := ⟨by simp, by simp [go_sem], by simp [go_sem], by simp [go_sem], by simp [go_sem], by simp [go_sem], by simp [go_sem]⟩
              go_simp
              refine hK.out _ _ ?_
              exact ⟨(fun jz => if jz = 7 then .pointer (some ⟨W.heap.size, 0, none⟩) else v jz), (fun z => if z = 10 then W.heap.size else g z), rfl, ⟨below_on hR.st hb, hR.f0.k rfl, hR.f1.k rfl, hR.f2.k rfl, hR.f3.k rfl, hR.f4.k rfl, hR.f5.k rfl, hR.f6.k rfl, hR.f7.k rfl, hR.f8.k rfl, hR.f9.k rfl, (fun _ => rfl), (fun _ => ⟨hR.st.size, _, _, _, hE⟩), hR.f11.k rfl, hR.b11.keepM rfl (fun h => by obtain ⟨l, a, b, c, r⟩ := h; exact ⟨l, a, b, c, r.on hb⟩), (fun h => absurd (upd_back h rfl) (by simp [hk12])), hR.t13.keepM rfl (fun r => r.on hb), (fun _ h => by obtain ⟨_, _, _, _, r⟩ := hR.b11 (upd_back h rfl); have := r.hb; show W.heap.size ≠ g 11; omega), hR.w1.o rfl, hR.w3.o rfl, hR.w4.o rfl, hR.w6.o rfl, hR.w8.o rfl, hR.w9.o rfl, hR.w12.o rfl, hR.w13.o rfl⟩⟩
            refine EachOf.cons [] rfl (by kernel_rfl) ?_ ?_
            · rintro L A W ⟨v, g, rfl, hR⟩ hi hw K hK
              have hb : Below W.heap.size W (W.alloc (Obj.cells #[Value.slice none 0 0, Value.int IntKind.i64 0, Value.int IntKind.i64 0] 50)) := (Below.refl _ _).alloc (Nat.le_refl _) (Obj.cells #[Value.slice none 0 0, Value.int IntKind.i64 0, Value.int IntKind.i64 0] 50)
              have hk13 : L 13 = false := hR.w13.not hi rfl
              have hE : EBlk (W.alloc (Obj.cells #[Value.slice none 0 0, Value.int IntKind.i64 0, Value.int IntKind.i64 0] 50)) W.heap.size (.slice none 0 0) (.int .i64 0) (.int .i64 0) := ⟨by simp, by simp [go_sem], by simp [go_sem], by simp [go_sem], by simp [go_sem], by simp [go_sem], by simp [go_sem]⟩
              go_simp
              refine hK.out _ _ ?_
              exact ⟨(fun jz => if jz = 8 then .pointer (some ⟨W.heap.size, 0, none⟩) else v jz), (fun z => if z = 11 then W.heap.size else g z), rfl, ⟨below_on hR.st hb, hR.f0.k rfl, hR.f1.k rfl, hR.f2.k rfl, hR.f3.k rfl, hR.f4.k rfl, hR.f5.k rfl, hR.f6.k rfl, hR.f7.k rfl, hR.f8.k rfl, hR.f9.k rfl, hR.f10.k rfl, hR.b10.keepM rfl (fun h => by obtain ⟨l, a, b, c, r⟩ := h; exact ⟨l, a, b, c, r.on hb⟩), (fun _ => rfl), (fun _ => ⟨hR.st.size, _, _, _, hE⟩), hR.t12.keepM rfl (fun r => r.on hb), (fun h => absurd (upd_back h rfl) (by simp [hk13])), (fun h _ => by obtain ⟨_, _, _, _, r⟩ := hR.b10 (upd_back h rfl); have := r.hb; show g 10 ≠ W.heap.size; omega), hR.w1.o rfl, hR.w3.o rfl, hR.w4.o rfl, hR.w6.o rfl, hR.w8.o rfl, hR.w9.o rfl, hR.w12.o rfl, hR.w13.o rfl⟩⟩
            refine EachOf.cons [0, 1, 2, 3, 4, 10, 11] rfl (by kernel_rfl) ?_ ?_
            · rintro L A W ⟨v, g, rfl, hR⟩ hi hw K hK
              have e10 := hR.f10 (hw 10 (by simp))
              have e4 := hR.f4 (hw 4 (by simp))
              simp only [e10, e4]
              clear e10 e4
              obtain ⟨hl, y0, y1, y2, hE⟩ := hR.b10 (hw 10 (by simp))
              have q0 := hE.c0
              have q1 := hE.c1
              have q2 := hE.c2
              have q3 := hE.f0
              have q4 := hE.f1
              have q5 := hE.f2
              go_simp
              refine hK.out _ _ ?_
              exact ⟨(fun jz => if jz = 7 then .pointer (some ⟨g 10, 0, none⟩) else if jz = 55 then .agg #[.slice (p.Ca i) ln (p.Kc i), .int .i64 kd, .int .i64 rt] else v jz), g, rfl, ⟨(((hR.st.setCell (p := ⟨g 10, 0, none⟩) hl _).setCell (p := ⟨g 10, 1, none⟩) hl _).setCell (p := ⟨g 10, 2, none⟩) hl _), hR.f0.k rfl, hR.f1.k rfl, hR.f2.k rfl, hR.f3.k rfl, (fun _ => rfl), hR.f5.k rfl, hR.f6.k rfl, hR.f7.k rfl, hR.f8.k rfl, hR.f9.k rfl, (fun _ => rfl), (fun _ => ⟨hl, _, _, _, ((hE.set0 _).set1 _).set2 _⟩), hR.f11.k rfl, (fun h => by obtain ⟨l, a, b, c, r⟩ := hR.b11 (upd_back h rfl); have hn := hR.d (hw 10 (by simp)) (upd_back h rfl); exact ⟨l, a, b, c, ((r.far hn).far hn).far hn⟩), (fun _ => ((hE.set0 _).set1 _).set2 _), (fun h => by have r := hR.t13 (upd_back h rfl); have hn := hR.d (hw 10 (by simp)) (hR.w13 (upd_back h rfl) 11 (by simp)); exact ((r.far hn).far hn).far hn), hR.d.keep rfl rfl, hR.w1.o rfl, hR.w3.o rfl, hR.w4.o rfl, hR.w6.o rfl, hR.w8.o rfl, hR.w9.o rfl, (fun _ j hj => upd_on (hw j hj)), hR.w13.o rfl⟩⟩
            refine EachOf.cons [0, 1, 2, 3, 4, 5, 6, 7, 8, 9, 10, 11, 12] rfl (by kernel_rfl) ?_ ?_
            · rintro L A W ⟨v, g, rfl, hR⟩ hi hw K hK
              have e11 := hR.f11 (hw 11 (by simp))
              have e9 := hR.f9 (hw 9 (by simp))
              simp only [e11, e9]
              clear e11 e9
              obtain ⟨hl, y0, y1, y2, hE⟩ := hR.b11 (hw 11 (by simp))
              have q0 := hE.c0
              have q1 := hE.c1
              have q2 := hE.c2
              have q3 := hE.f0
              have q4 := hE.f1
              have q5 := hE.f2
              go_simp
              refine hK.out _ _ ?_
              exact ⟨(fun jz => if jz = 8 then .pointer (some ⟨g 11, 0, none⟩) else if jz = 60 then .agg #[.slice (q.Ca i) ln2 (q.Kc i), .int .i64 kd2, .int .i64 rt2] else v jz), g, rfl, ⟨(((hR.st.setCell (p := ⟨g 11, 0, none⟩) hl _).setCell (p := ⟨g 11, 1, none⟩) hl _).setCell (p := ⟨g 11, 2, none⟩) hl _), hR.f0.k rfl, hR.f1.k rfl, hR.f2.k rfl, hR.f3.k rfl, hR.f4.k rfl, hR.f5.k rfl, hR.f6.k rfl, hR.f7.k rfl, hR.f8.k rfl, (fun _ => rfl), hR.f10.k rfl, (fun h => by obtain ⟨l, a, b, c, r⟩ := hR.b10 (upd_back h rfl); have hn := (hR.d (upd_back h rfl) (hw 11 (by simp))).symm; exact ⟨l, a, b, c, ((r.far hn).far hn).far hn⟩), (fun _ => rfl), (fun _ => ⟨hl, _, _, _, ((hE.set0 _).set1 _).set2 _⟩), (fun h => by have r := hR.t12 (upd_back h rfl); have hn := (hR.d (hR.w12 (upd_back h rfl) 10 (by simp)) (hw 11 (by simp))).symm; exact ((r.far hn).far hn).far hn), (fun _ => ((hE.set0 _).set1 _).set2 _), hR.d.keep rfl rfl, hR.w1.o rfl, hR.w3.o rfl, hR.w4.o rfl, hR.w6.o rfl, hR.w8.o rfl, hR.w9.o rfl, hR.w12.o rfl, (fun _ j hj => upd_on (hw j hj))⟩⟩
            exact EachOf.nil
          rintro L A W ⟨v, g, rfl, hR⟩ hL
          have e7 := hR.f10 (hL 10 (by simp))
          have e8 := hR.f11 (hL 11 (by simp))
          have HE1 := Lib.hid (hR.t12 (hL 12 (by simp)))
          have HE2 := Lib.hid (hR.t13 (hL 13 (by simp)))
          simp only [e7, e8]
          clear e7 e8
          generalize g 10 = b1 at *
          generalize g 11 = b2 at *
          have HB2 := Lib.hid (below_on HBW.out hR.st)
          have HT2 := Lib.hid (HTW.out.on hR.st)
          clear hR hL LX LY LA0 LA1 LA2 LB0 LB1 LB2 HBW HTW lp lq
          have k0 := HE1.out.c0
          have k1 := HE1.out.c1
          have k2 := HE1.out.c2
          have l0 := HE2.out.c0
          have l1 := HE2.out.c1
          have l2 := HE2.out.c2
          by_cases hkk : kd = kd2
          case neg =>
            have t1 : (kd != kd2) = true := by simpa using hkk
            have HN := Lib.hid (not_same_false HV.out fun h => hkk (by rw [← HI.out.1, ← HJ.out.1]; exact h.k i hlt))
            clear hkk
            go_wp2_with fail
            go_ret
            exact ⟨by rw [HN.out]; rfl, HB2.out⟩
          have t1 : (kd != kd2) = false := by simp [hkk]
          by_cases hrr : rt = rt2
          case neg =>
            have t2 : (rt != rt2) = true := by simpa using hrr
            have HN := Lib.hid (not_same_false HV.out fun h => hrr (by rw [← HI.out.2.1, ← HJ.out.2.1]; exact h.r i hlt))
            clear hrr hkk
            go_wp2_with fail
            go_ret
            exact ⟨by rw [HN.out]; rfl, HB2.out⟩
          have t2 : (rt != rt2) = false := by simp [hrr]
          by_cases hll : ln = ln2
          case neg =>
            have t3 : ((ln : Int) != (ln2 : Int)) = true := by simp; omega
            have t4 : ¬ ((ln : Int) = (ln2 : Int)) := by omega
            have HN := Lib.hid (not_same_false HV.out fun h => hll (by rw [← HI.out.2.2, ← HJ.out.2.2]; exact h.l i hlt))
            clear hrr hkk hll
            go_wp2_with fail
            go_ret
            exact ⟨by rw [HN.out]; rfl, HB2.out⟩
          have t3 : ((ln : Int) != (ln2 : Int)) = false := by simp [hll]
          have HKK := Lib.hid (And.intro hkk (And.intro hrr hll))
          clear hkk hrr hll
          go_wp2_with fail
          clear t1 t2 t3 k0 k1 k2 l0 l1 l2
          have S0 : Hid (Two W xb yb p q ∧ Below w.heap.size w W ∧ EBlk W b1 (.slice (p.Ca i) ln (p.Kc i)) (.int .i64 kd) (.int .i64 rt) ∧ EBlk W b2 (.slice (q.Ca i) ln2 (q.Kc i)) (.int .i64 kd2) (.int .i64 rt2) ∧ ∀ l, l < 0 → p.Z i l = q.Z i l) := ⟨HT2.out, HB2.out, HE1.out, HE2.out, fun l h => by omega⟩
          clear HT2 HB2 HE1 HE2
          go_loopg [9] ln (fun g s9 wx => ∃ j : Nat, s9 = .int .i64 j ∧ g = ln - j ∧ j ≤ ln ∧ Hid (Two wx xb yb p q ∧ Below w.heap.size w wx ∧ EBlk wx b1 (.slice (p.Ca i) ln (p.Kc i)) (.int .i64 kd) (.int .i64 rt) ∧ EBlk wx b2 (.slice (q.Ca i) ln2 (q.Kc i)) (.int .i64 kd2) (.int .i64 rt2) ∧ ∀ l, l < j → p.Z i l = q.Z i l))
          case atStart => exact ⟨0, rfl, rfl, Nat.zero_le _, S0⟩
          case round =>
            clear S0
            obtain ⟨j, rfl, rfl, hj, S⟩ := hrel
            rename World => W1
            have k0 := S.out.2.2.1.c0
            have l0 := S.out.2.2.2.1.c0
            by_cases hjl : j < ln
            · have wkj : IntKind.i64.wrap ((j : Int) + 1) = ((j + 1 : Nat) : Int) := by rw [IntWalk.i64_in _ (by omega)]; omega
              have hjl2 : j < ln2 := by have := HKK.out; omega
              have h1 := (HP.out.on S.out.2.1).coef i hlt
              have h2 := (HQ.out.on S.out.2.1).coef i hmq
              rw [HI.out.2.2] at h1
              rw [HJ.out.2.2] at h2
              obtain ⟨cg, co, ec, hcg, hcr⟩ := h1 (by omega)
              obtain ⟨dg, dd, ed, hdg, hdr⟩ := h2 (by omega)
              have p1 := hcr j hjl
              have p2 := hdr j hjl2
              obtain ⟨z, hz⟩ : ∃ x, p.Z i j = x := ⟨_, rfl⟩
              obtain ⟨y, hy⟩ : ∃ x, q.Z i j = x := ⟨_, rfl⟩
              rw [hz] at p1
              rw [hy] at p2
              rw [ec] at k0
              rw [ed] at l0
              have HZ := Lib.hid hz
              have HY := Lib.hid hy
              clear hcr hcg hdr hdg hz hy ec ed h1 h2
              go_upto_region 17 with fail
              by_cases hzy : z = y
              · have t1 : (z != y) = false := by simp [hzy]
                have HZY := Lib.hid hzy
                clear hzy
                go_quiet (fail)
                have HB2 : Hid (Below W1.heap.size W1 (W1.drewN nq)) := below_drewN' (Below.refl _ _) nq
                generalize W1.drewN nq = W2 at *
                have T : Hid (Two W2 xb yb p q ∧ Below w.heap.size w W2 ∧ EBlk W2 b1 (.slice (p.Ca i) ln (p.Kc i)) (.int .i64 kd) (.int .i64 rt) ∧ EBlk W2 b2 (.slice (q.Ca i) ln2 (q.Kc i)) (.int .i64 kd2) (.int .i64 rt2) ∧ ∀ l, l < j + 1 → p.Z i l = q.Z i l) := ⟨S.out.1.on HB2.out, below_on S.out.2.1 HB2.out, S.out.2.2.1.on HB2.out, S.out.2.2.2.1.on HB2.out, fun l hl => by
                  by_cases e : l = j
                  · rw [e, HZ.out, HY.out]; exact HZY.out
                  · exact S.out.2.2.2.2 l (by omega)⟩
                clear S HB2 HZ HY HZY p1 p2 k0 l0 t1 hjl2
                go_wp2_with fail
                go_roundg (ln - (j + 1))
                case measure => omega
                case rel => exact ⟨j + 1, rfl, rfl, by omega, T⟩
              · have t1 : (z != y) = true := by simpa using hzy
                have HN := Lib.hid (not_same_false HV.out fun h => hzy (by rw [← HZ.out, ← HY.out]; exact h.z i hlt j (by rw [HI.out.2.2]; exact hjl)))
                clear hzy
                go_quiet (fail)
                have HB2 : Hid (Below W1.heap.size W1 (W1.drewN nq)) := below_drewN' (Below.refl _ _) nq
                generalize W1.drewN nq = W2 at *
                clear p1 p2 k0 l0 t1
                go_wp2_with fail
                go_ret
                exact ⟨by rw [HN.out]; rfl, below_on S.out.2.1 HB2.out⟩
            · have e : j = ln := by omega
              subst e
              have T : Hid (Two W1 xb yb p q ∧ Below w.heap.size w W1 ∧ ∀ l, l < i + 1 → p.Kd l = q.Kd l ∧ p.Rt l = q.Rt l ∧ p.Ln l = q.Ln l ∧ ∀ k, k < p.Ln l → p.Z l k = q.Z l k) := ⟨S.out.1, S.out.2.1, fun l hl => by
                by_cases e : l = i
                · subst e
                  have h1 := HI.out
                  have h2 := HJ.out
                  have h3 := HKK.out
                  refine ⟨by omega, by omega, by omega, ?_⟩
                  rw [h1.2.2]
                  exact S.out.2.2.2.2
                · exact HSL.out l (by omega)⟩
              clear S HI HJ HKK HSL
              go_wp2_with fail
              clear k0 l0
              go_roundg (p.m - (i + 1))
              case measure => omega
              case rel => exact ⟨i + 1, rfl, rfl, by omega, T⟩
        · have e : i = p.m := by omega
          subst e
          have HN : Hid (v = true) := HV.out.2 ⟨HNE.out, HME.out, HC.out, fun i hi => (S.out.2.2 i hi).1, fun i hi => (S.out.2.2 i hi).2.1, fun i hi => (S.out.2.2 i hi).2.2.1, fun i hi => (S.out.2.2 i hi).2.2.2⟩
          go_wp2_with fail
          go_ret
          exact ⟨by rw [HN.out]; rfl, S.out.2.1⟩
end Go.Proofs.Ytdbmlkkpffoadaa

namespace Go.Proofs.Ytdbmlkkpffoadaa
set_option linter.unusedVariables false
open Go.RowKit Go.Shelf

/-- The reference's dual under way. -/
structure RDu (p : PgD) (B0 : Nat) (W : World) (xb gb db : Nat) (v4 v5 : Value) (c j : Nat) (cv rv : Value) (P : Nat → Option Addr) (C : Nat → Nat) : Prop where
  x : Blk W xb (.slice p.ca p.n p.cc) (.slice p.ra p.m p.rc)
  g : Blk W gb (.slice none 0 0) (.slice none 0 0)
  gz : Frz W gb
  s4 : W.ownsRow B0 3 1 v4 (shN p) ((shL p p.m).map fun s => Value.int .i64 s.2)
  s5 : W.ownsRow B0 3 1 v5 (shN p) ((shL p p.m).map fun s => Value.int .i64 (s.1 : Int))
  d : Blk W db cv rv
  dz : Frz W db
  c : W.ownsRow B0 3 1 cv c ((List.range c).map fun l => Value.int .i64 (duC p l))
  r : W.ownsRow B0 50 3 rv j (duW p P C j)
  o : ∀ l, l < j → W.ownsRow B0 3 1 (.slice (P l) (shN p) (C l)) (shN p) ((List.range (shN p)).map fun k => Value.int .i64 (duZ p l k))
  lo : B0 ≤ xb ∧ B0 ≤ gb ∧ B0 ≤ db
  ne : xb ≠ db ∧ gb ≠ db
  sn : ∀ q, (v4.ownBlock = some q ∨ v5.ownBlock = some q) → q ≠ db
  cn : ∀ q, cv.ownBlock = some q → q ≠ xb ∧ q ≠ gb ∧ q ≠ db ∧ ¬ (v4.ownBlock = some q ∨ v5.ownBlock = some q)
  rn : ∀ q, rv.ownBlock = some q → q ≠ xb ∧ q ≠ gb ∧ q ≠ db ∧ ¬ (v4.ownBlock = some q ∨ v5.ownBlock = some q) ∧ cv.ownBlock ≠ some q ∧ ∀ l, l < j → (Value.slice (P l) (shN p) (C l)).ownBlock ≠ some q
  on : ∀ l, l < j → ∀ q, (Value.slice (P l) (shN p) (C l)).ownBlock = some q → q ≠ db ∧ q ≠ gb
section
variable {p : PgD} {B0 : Nat} {W W2 : World} {xb gb db : Nat} {v4 v5 cv rv : Value} {c j : Nat} {P : Nat → Option Addr} {C : Nat → Nat}
theorem RDu.go (h : RDu p B0 W xb gb db v4 v5 c j cv rv P C) (hb : Below W.heap.size W W2) : RDu p B0 W2 xb gb db v4 v5 c j cv rv P C where
  x := h.x.on hb
  g := h.g.on hb
  gz := h.gz.on h.g.1 hb
  s4 := own_only h.s4 (Only.of_below (S := fun _ => False) hb) (fun _ _ q => q)
  s5 := own_only h.s5 (Only.of_below (S := fun _ => False) hb) (fun _ _ q => q)
  d := h.d.on hb
  dz := h.dz.on h.d.1 hb
  c := own_only h.c (Only.of_below (S := fun _ => False) hb) (fun _ _ q => q)
  r := own_only h.r (Only.of_below (S := fun _ => False) hb) (fun _ _ q => q)
  o := fun l hl => own_only (h.o l hl) (Only.of_below (S := fun _ => False) hb) (fun _ _ q => q)
  lo := h.lo
  ne := h.ne
  sn := h.sn
  cn := h.cn
  rn := h.rn
  on := h.on
theorem RDu.pushC (h : RDu p B0 W xb gb db v4 v5 c 0 cv (.slice none 0 0) P C) {z : Int} (hz : z = duC p c) {g cap : Nat} (hA : Only (fun q => cv.ownBlock = some q) W W2)
    (ho : W2.ownsRow B0 3 1 (.slice (some ⟨g, 0, none⟩) (c + 1) cap) (c + 1) (((List.range c).map fun l => Value.int .i64 (duC p l)) ++ [Value.int .i64 z])) (hg : cv.ownBlock = some g ∨ W.heap.size ≤ g) :
    RDu p B0 (W2.setCell ⟨db, 0, none⟩ (.slice (some ⟨g, 0, none⟩) (c + 1) cap)) xb gb db v4 v5 (c + 1) 0 (.slice (some ⟨g, 0, none⟩) (c + 1) cap) (.slice none 0 0) P C := by
  have nx : ¬ cv.ownBlock = some xb := fun e => (h.cn xb e).1 rfl
  have ng : ¬ cv.ownBlock = some gb := fun e => (h.cn gb e).2.1 rfl
  have nd : ¬ cv.ownBlock = some db := fun e => (h.cn db e).2.2.1 rfl
  have hos := only_set W2 ⟨db, 0, none⟩ (.slice (some ⟨g, 0, none⟩) (c + 1) cap)
  have hgn : g ≠ xb ∧ g ≠ gb ∧ g ≠ db ∧ ¬ (v4.ownBlock = some g ∨ v5.ownBlock = some g) := by
    rcases hg with hg | hg
    · exact h.cn g hg
    · have a := h.x.1
      have b := h.g.1
      have d := h.d.1
      exact ⟨by omega, by omega, by omega, fun e => by rcases e with e | e; (· have := (h.s4.lt g e).2; omega); (· have := (h.s5.lt g e).2; omega)⟩
  refine ⟨(h.x.only hA nx).far1 h.ne.1.symm, (h.g.only hA ng).far1 h.ne.2.symm, (frz_only h.gz h.g.1 hA ng).set1, own_only (own_only h.s4 hA (fun q hq e => (h.cn q e).2.2.2 (.inl hq))) hos (fun q hq e => h.sn q (.inl hq) e), own_only (own_only h.s5 hA (fun q hq e => (h.cn q e).2.2.2 (.inr hq))) hos (fun q hq e => h.sn q (.inr hq) e), blk_set0 (h.d.only hA nd), (frz_only h.dz h.d.1 hA nd).set1, ?_, ⟨rfl, .inl ⟨rfl, rfl⟩⟩, fun l hl => absurd hl (Nat.not_lt_zero _), h.lo, h.ne, h.sn, fun q hq => ?_, fun q hq => (by cases hq), fun l hl => absurd hl (Nat.not_lt_zero _)⟩
  · rw [intsC_succ, ← hz]
    exact own_only ho hos (fun q hq e => by
      have e4 : g = q := by injection hq
      have e3 : q = db := e
      omega)
  · have e4 : g = q := by injection hq
    subst e4
    exact hgn
theorem RDu.pushR (h : RDu p B0 W xb gb db v4 v5 c j cv rv P C) {pa : Option Addr} {pc : Nat} (hp : W.ownsRow B0 3 1 (.slice pa (shN p) pc) (shN p) ((List.range (shN p)).map fun k => Value.int .i64 (duZ p j k))) (hpn : ∀ q, (Value.slice pa (shN p) pc).ownBlock = some q → q ≠ db ∧ q ≠ gb ∧ rv.ownBlock ≠ some q)
    {g cap : Nat} (hA : Only (fun q => rv.ownBlock = some q) W W2) (ho : W2.ownsRow B0 50 3 (.slice (some ⟨g, 0, none⟩) (j + 1) cap) (j + 1) (duW p P C j ++ [Value.slice pa (shN p) pc, .int .i64 1, .int .i64 (p.C j)])) (hg : rv.ownBlock = some g ∨ W.heap.size ≤ g) :
    RDu p B0 (W2.setCell ⟨db, 1, none⟩ (.slice (some ⟨g, 0, none⟩) (j + 1) cap)) xb gb db v4 v5 c (j + 1) cv (.slice (some ⟨g, 0, none⟩) (j + 1) cap) (updG P j pa) (updG C j pc) := by
  have nx : ¬ rv.ownBlock = some xb := fun e => (h.rn xb e).1 rfl
  have ng : ¬ rv.ownBlock = some gb := fun e => (h.rn gb e).2.1 rfl
  have nd : ¬ rv.ownBlock = some db := fun e => (h.rn db e).2.2.1 rfl
  have hos := only_set W2 ⟨db, 1, none⟩ (.slice (some ⟨g, 0, none⟩) (j + 1) cap)
  have hgn : g ≠ xb ∧ g ≠ gb ∧ g ≠ db ∧ ¬ (v4.ownBlock = some g ∨ v5.ownBlock = some g) ∧ cv.ownBlock ≠ some g ∧ (∀ l, l < j → (Value.slice (P l) (shN p) (C l)).ownBlock ≠ some g) ∧ (Value.slice pa (shN p) pc).ownBlock ≠ some g := by
    rcases hg with hg | hg
    · have := h.rn g hg
      exact ⟨this.1, this.2.1, this.2.2.1, this.2.2.2.1, this.2.2.2.2.1, this.2.2.2.2.2, fun e => (hpn g e).2.2 hg⟩
    · have a := h.x.1
      have b := h.g.1
      have d := h.d.1
      exact ⟨by omega, by omega, by omega, fun e => by rcases e with e | e; (· have := (h.s4.lt g e).2; omega); (· have := (h.s5.lt g e).2; omega), fun e => by have := (h.c.lt g e).2; omega, fun l hl e => by have := ((h.o l hl).lt g e).2; omega, fun e => by have := (hp.lt g e).2; omega⟩
  have ew : duW p (updG P j pa) (updG C j pc) (j + 1) = duW p P C j ++ [Value.slice pa (shN p) pc, .int .i64 1, .int .i64 (p.C j)] := by
    rw [duW_succ, updG_same, updG_same, duW_congr p j (fun l hl => ⟨updG_other (by omega), updG_other (by omega)⟩)]
  have blk : ∀ l, l < j + 1 → ∀ q, (Value.slice (updG P j pa l) (shN p) (updG C j pc l)).ownBlock = some q → (q ≠ db ∧ q ≠ gb) ∧ q ≠ g ∧ rv.ownBlock ≠ some q := fun l hl q hq => by
    by_cases e : l = j
    · subst e
      rw [updG_same, updG_same] at hq
      exact ⟨⟨(hpn q hq).1, (hpn q hq).2.1⟩, fun e => hgn.2.2.2.2.2.2 (e ▸ hq), (hpn q hq).2.2⟩
    · rw [updG_other e, updG_other e] at hq
      exact ⟨h.on l (by omega) q hq, fun e2 => hgn.2.2.2.2.2.1 l (by omega) (e2 ▸ hq), fun e2 => (h.rn q e2).2.2.2.2.2 l (by omega) hq⟩
  refine ⟨(h.x.only hA nx).far1 h.ne.1.symm, (h.g.only hA ng).far1 h.ne.2.symm, (frz_only h.gz h.g.1 hA ng).set1, own_only (own_only h.s4 hA (fun q hq e => (h.rn q e).2.2.2.1 (.inl hq))) hos (fun q hq e => h.sn q (.inl hq) e), own_only (own_only h.s5 hA (fun q hq e => (h.rn q e).2.2.2.1 (.inr hq))) hos (fun q hq e => h.sn q (.inr hq) e), (h.d.only hA nd).set1, (frz_only h.dz h.d.1 hA nd).set1,
    own_only (own_only h.c hA (fun q hq e => (h.rn q e).2.2.2.2.1 hq)) hos (fun q hq e => (h.cn q hq).2.2.1 e), ?_, fun l hl => ?_, h.lo, h.ne, h.sn, h.cn, fun q hq => ?_, fun l hl q hq => (blk l hl q hq).1⟩
  · rw [ew]
    exact own_only ho hos (fun q hq e => by
      have e4 : g = q := by injection hq
      have e3 : q = db := e
      omega)
  · have hb := blk l hl
    by_cases e : l = j
    · subst e
      rw [updG_same, updG_same] at hb ⊢
      exact own_only (own_only hp hA (fun q hq e => (hb q hq).2.2 e)) hos (fun q hq e => (hb q hq).1.1 e)
    · rw [updG_other e, updG_other e] at hb ⊢
      exact own_only (own_only (h.o l (by omega)) hA (fun q hq e => (hb q hq).2.2 e)) hos (fun q hq e => (hb q hq).1.1 e)
  · have e4 : g = q := by injection hq
    subst e4
    exact ⟨hgn.1, hgn.2.1, hgn.2.2.1, hgn.2.2.2.1, hgn.2.2.2.2.1, fun l hl e => (blk l hl _ e).2.1 rfl⟩
end
theorem RDu.fin2 {p : PgD} {B0 : Nat} {W W2 : World} {xb gb db : Nat} {v4 v5 : Value} {ca ra : Option Addr} {cc rc : Nat} {P : Nat → Option Addr} {C : Nat → Nat} (h : RDu p B0 W xb gb db v4 v5 (shN p) p.n (.slice ca (shN p) cc) (.slice ra p.n rc) P C) (ho : Only (fun q => q = gb) W W2) (hg : ∀ l, l < p.n → ∀ q, (Value.slice (P l) (shN p) (C l)).ownBlock = some q → q ≠ gb) : (duP p ca cc ra rc P C).At W2 where
  cost := irow_only h.c ho (fun q hq => (h.cn q hq).2.1)
  rows := fun hm => by
    have hm : 0 < p.n := hm
    have hr0 := own_only h.r ho (fun q hq => (h.rn q hq).2.1)
    obtain ⟨g, cap, e⟩ := own_some hr0 hm
    have e1 : ra = some ⟨g, 0, none⟩ := by injection e
    rw [e] at hr0
    refine ⟨g, 0, e1, (hr0.lt g rfl).2, fun i hi => ?_⟩
    have hi : i < p.n := hi
    have hg := duW_get p P C p.n i hi
    rw [Nat.zero_add, hr0.cellAt (i * 3) (by omega), hr0.cellAt (i * 3 + 1) (by omega), hr0.cellAt (i * 3 + 2) (by omega)]
    exact hg
  coef := fun i hi => irow_only (h.o i hi) ho (fun q hq => hg i hi q hq)

/-- Two lists of numbers under way. -/
structure RL (B0 : Nat) (W : World) (xb gb : Nat) (x0 x1 v4 v5 : Value) (n4 n5 : Nat) (a : List Int) (b : List Nat) : Prop where
  x : Blk W xb x0 x1
  g : Blk W gb (.slice none 0 0) (.slice none 0 0)
  gz : Frz W gb
  lt : xb < B0 ∧ gb < B0
  s4 : W.ownsRow B0 3 1 v4 n4 (a.map fun z => Value.int .i64 z)
  s5 : W.ownsRow B0 3 1 v5 n5 (b.map fun z : Nat => Value.int .i64 (z : Int))
  ne : ∀ q, v4.ownBlock = some q → v5.ownBlock ≠ some q
section
variable {B0 : Nat} {W W2 : World} {xb gb : Nat} {x0 x1 v4 v5 : Value} {n4 n5 : Nat} {a : List Int} {b : List Nat}
theorem RL.go (h : RL B0 W xb gb x0 x1 v4 v5 n4 n5 a b) (hb : Below W.heap.size W W2) : RL B0 W2 xb gb x0 x1 v4 v5 n4 n5 a b :=
  ⟨h.x.on hb, h.g.on hb, h.gz.on h.g.1 hb, h.lt, own_only h.s4 (Only.of_below (S := fun _ => False) hb) (fun _ _ q => q), own_only h.s5 (Only.of_below (S := fun _ => False) hb) (fun _ _ q => q), h.ne⟩
theorem RL.push4 (h : RL B0 W xb gb x0 x1 v4 v5 n4 n5 a b) {z : Int} {g cap : Nat} (hA : Only (fun q => v4.ownBlock = some q) W W2) (ho : W2.ownsRow B0 3 1 (.slice (some ⟨g, 0, none⟩) (n4 + 1) cap) (n4 + 1) ((a.map fun z => Value.int .i64 z) ++ [Value.int .i64 z])) (hg : v4.ownBlock = some g ∨ W.heap.size ≤ g) :
    RL B0 W2 xb gb x0 x1 (.slice (some ⟨g, 0, none⟩) (n4 + 1) cap) v5 (n4 + 1) n5 (a ++ [z]) b := by
  have hx : ¬ v4.ownBlock = some xb := fun e => by have := (h.s4.lt xb e).1; have := h.lt; omega
  have hgb : ¬ v4.ownBlock = some gb := fun e => by have := (h.s4.lt gb e).1; have := h.lt; omega
  refine ⟨h.x.only hA hx, h.g.only hA hgb, frz_only h.gz h.g.1 hA hgb, h.lt, by rw [List.map_append]; exact ho, own_only h.s5 hA (fun q hq e => h.ne q e hq), fun q hq => ?_⟩
  have e4 : g = q := by injection hq
  subst e4
  rcases hg with hg | hg
  · exact h.ne g hg
  · intro e
    have := (h.s5.lt g e).2
    omega
theorem RL.push5 (h : RL B0 W xb gb x0 x1 v4 v5 n4 n5 a b) {z : Nat} {g cap : Nat} (hA : Only (fun q => v5.ownBlock = some q) W W2) (ho : W2.ownsRow B0 3 1 (.slice (some ⟨g, 0, none⟩) (n5 + 1) cap) (n5 + 1) ((b.map fun z : Nat => Value.int .i64 (z : Int)) ++ [Value.int .i64 (z : Int)])) (hg : v5.ownBlock = some g ∨ W.heap.size ≤ g) :
    RL B0 W2 xb gb x0 x1 v4 (.slice (some ⟨g, 0, none⟩) (n5 + 1) cap) n4 (n5 + 1) a (b ++ [z]) := by
  have hx : ¬ v5.ownBlock = some xb := fun e => by have := (h.s5.lt xb e).1; have := h.lt; omega
  have hgb : ¬ v5.ownBlock = some gb := fun e => by have := (h.s5.lt gb e).1; have := h.lt; omega
  refine ⟨h.x.only hA hx, h.g.only hA hgb, frz_only h.gz h.g.1 hA hgb, h.lt, own_only h.s4 hA (fun q hq e => h.ne q hq e), by rw [List.map_append]; exact ho, fun q hq hc => ?_⟩
  have e4 : g = q := by injection hc
  subst e4
  rcases hg with hg | hg
  · exact h.ne g hq hg
  · have := (h.s4.lt g hq).2
    omega
end
def sgL (p : PgD) (i : Nat) : List Int := (shL p i).map fun s => s.2
def rwL (p : PgD) (i : Nat) : List Nat := (shL p i).map fun s => s.1
theorem sgL_vals (p : PgD) (i : Nat) : ((sgL p i).map fun z => Value.int .i64 z) = (shL p i).map fun s => Value.int .i64 s.2 := by unfold sgL; rw [List.map_map]; rfl
theorem rwL_vals (p : PgD) (i : Nat) : ((rwL p i).map fun z : Nat => Value.int .i64 (z : Int)) = (shL p i).map fun s => Value.int .i64 (s.1 : Int) := by unfold rwL; rw [List.map_map]; rfl
theorem sh_one {p : PgD} {i : Nat} (h : p.Kd i = 1) : shL p (i + 1) = shL p i ++ [(i, -1)] := by
  show (shL p i ++ if p.Kd i = 1 then [] else [(i, 1)]) ++ (if p.Kd i = 2 then [] else [(i, -1)]) = _
  rw [if_pos h, if_neg (by omega), List.append_nil]
theorem sh_two {p : PgD} {i : Nat} (h : p.Kd i = 2) : shL p (i + 1) = shL p i ++ [(i, 1)] := by
  show (shL p i ++ if p.Kd i = 1 then [] else [(i, 1)]) ++ (if p.Kd i = 2 then [] else [(i, -1)]) = _
  rw [if_neg (by omega), if_pos h, List.append_nil]
theorem sh_three {p : PgD} {i : Nat} (h : p.Kd i = 3) : shL p (i + 1) = shL p i ++ [(i, 1)] ++ [(i, -1)] := by
  show (shL p i ++ if p.Kd i = 1 then [] else [(i, 1)]) ++ (if p.Kd i = 2 then [] else [(i, -1)]) = _
  rw [if_neg (by omega), if_neg (by omega)]
theorem sgL_app {p : PgD} {i : Nat} {l : List (Nat × Int)} (h : shL p (i + 1) = shL p i ++ l) : sgL p (i + 1) = sgL p i ++ l.map (fun s => s.2) ∧ rwL p (i + 1) = rwL p i ++ l.map (fun s => s.1) ∧ (shL p (i + 1)).length = (shL p i).length + l.length := by
  unfold sgL rwL
  rw [h, List.map_append, List.map_append, List.length_append]
  exact ⟨rfl, rfl, rfl⟩
theorem sgL_get {p : PgD} {c : Nat} (h : c < shN p) : ((shL p p.m).map fun s => Value.int .i64 s.2)[c]? = some (.int .i64 (shS p c)) ∧ ((shL p p.m).map fun s => Value.int .i64 (s.1 : Int))[c]? = some (.int .i64 (shR p c : Int)) := by
  have hk : c < (shL p p.m).length := h
  unfold shS shR
  rw [List.getElem?_map, List.getElem?_map, List.getD_eq_getElem?_getD, List.getElem?_eq_getElem hk]
  exact ⟨rfl, rfl⟩
theorem sh_sur (p : PgD) : ∀ n i, i < n → ∃ s ∈ shL p n, s.1 = i := by
  intro n
  induction n with
  | zero => intro i h; omega
  | succ n ih =>
    intro i h
    by_cases e : i = n
    · subst e
      unfold shL
      by_cases h1 : p.Kd i = 1
      · exact ⟨(i, -1), by rw [if_neg (show ¬ p.Kd i = 2 by omega)]; simp, rfl⟩
      · exact ⟨(i, 1), by rw [if_neg h1]; simp, rfl⟩
    · obtain ⟨s, h1, h2⟩ := ih i (by omega)
      exact ⟨s, by unfold shL; rw [List.mem_append, List.mem_append]; exact .inl (.inl h1), h2⟩
theorem rts_all {p : PgD} (h : ∀ k, k < shN p → -1048576 ≤ p.Rt (shR p k) ∧ p.Rt (shR p k) ≤ 1048576) : RtS p := fun i hi => by
  obtain ⟨s, h1, h2⟩ := sh_sur p p.m i hi
  obtain ⟨k, hk, e⟩ := List.getElem_of_mem h1
  have := h k hk
  have e2 : shR p k = i := by
    unfold shR
    rw [List.getD_eq_getElem?_getD, List.getElem?_eq_getElem hk, ← h2, ← e]
    rfl
  rwa [e2] at this

structure RdCR (xb gr gro R c pm prc kn g5 qc : Nat) (rt : Int) (tb : Bool) (Wc : World) (L : Nat → Bool) (v : Nat → Value) (W : World) : Prop where
  st : Below Wc.heap.size Wc W
  f0 : Had L 0 (v 70 = .pointer (some ⟨xb, 1, none⟩))
  f1 : Had L 1 (v 71 = .slice (some ⟨gr, gro, none⟩) (pm) (prc))
  f2 : Had L 2 (v 72 = .slice (some ⟨g5, 0, none⟩) (kn) (qc))
  f3 : Had L 3 (v 73 = .int .i64 (c : Int))
  f4 : Had L 4 (v 74 = .pointer (some ⟨g5, c, none⟩))
  f5 : Had L 5 (v 75 = .int .i64 (R : Int))
  f6 : Had L 6 (v 76 = .pointer (some ⟨gr, gro + R * 3, none⟩))
  f7 : Had L 7 (v 77 = .pointer (some ⟨gr, gro + R * 3 + 2, none⟩))
  f8 : Had L 8 (v 78 = .int .i64 rt)
  f9 : Had L 9 (v 79 = .bool tb)
  f10 : Had L 10 (v 80 = .bool (!tb))
  w1 : Had L 1 (∀ j ∈ [0], L j = true)
  w4 : Had L 4 (∀ j ∈ [2, 3], L j = true)
  w5 : Had L 5 (∀ j ∈ [4], L j = true)
  w6 : Had L 6 (∀ j ∈ [1, 5], L j = true)
  w7 : Had L 7 (∀ j ∈ [6], L j = true)
  w8 : Had L 8 (∀ j ∈ [7], L j = true)
  w9 : Had L 9 (∀ j ∈ [8], L j = true)
  w10 : Had L 10 (∀ j ∈ [9], L j = true)

structure RdAR (db xb gr gro R c cc pm prc kn g4 g5 pc qc B0 : Nat) (pa : Option Addr) (fc : Nat → Int) (rt sg y z : Int) (Wc : World) (L : Nat → Bool) (v : Nat → Value) (W : World) : Prop where
  st : L 18 = false → Below Wc.heap.size Wc W
  f0 : Had L 0 (v 82 = .pointer (some ⟨db, 0, none⟩))
  f1 : Had L 1 (v 83 = .slice pa c cc)
  f2 : Had L 2 (v 84 = .slice (some ⟨g4, 0, none⟩) (kn) (pc))
  f3 : Had L 3 (v 85 = .int .i64 (c : Int))
  f4 : Had L 4 (v 86 = .pointer (some ⟨g4, c, none⟩))
  f5 : Had L 5 (v 87 = .int .i64 sg)
  f6 : Had L 6 (v 88 = .pointer (some ⟨xb, 1, none⟩))
  f7 : Had L 7 (v 89 = .slice (some ⟨gr, gro, none⟩) (pm) (prc))
  f8 : Had L 8 (v 90 = .slice (some ⟨g5, 0, none⟩) (kn) (qc))
  f9 : Had L 9 (v 91 = .int .i64 (c : Int))
  f10 : Had L 10 (v 92 = .pointer (some ⟨g5, c, none⟩))
  f11 : Had L 11 (v 93 = .int .i64 (R : Int))
  f12 : Had L 12 (v 94 = .pointer (some ⟨gr, gro + R * 3, none⟩))
  f13 : Had L 13 (v 95 = .pointer (some ⟨gr, gro + R * 3 + 2, none⟩))
  f14 : Had L 14 (v 96 = .int .i64 rt)
  f15 : Had L 15 (v 97 = .int .i64 y)
  f16 : Had L 16 (v 98 = .int .i64 z)
  x17 : Had L 17 (L 18 = false → ∃ B, v 99 = .slice (some ⟨B, 0, none⟩) 1 1 ∧ SlR W B [.int .i64 z])
  x18 : Had L 18 (L 20 = false → AppW Wc W B0 3 (.slice pa c cc) c (((List.range c).map fun l => Value.int .i64 (fc l)) ++ [Value.int .i64 z]) (v 100))
  f19 : Had L 19 (v 101 = .pointer (some ⟨db, 0, none⟩))
  s1 : Had L 20 (∃ W2 gq capq, AppW Wc W2 B0 3 (.slice pa c cc) c (((List.range c).map fun l => Value.int .i64 (fc l)) ++ [Value.int .i64 z]) (.slice (some ⟨gq, 0, none⟩) (c + 1) capq) ∧ W = W2.setCell ⟨db, 0, none⟩ (.slice (some ⟨gq, 0, none⟩) (c + 1) capq))
  w1 : Had L 1 (∀ j ∈ [0], L j = true)
  w4 : Had L 4 (∀ j ∈ [2, 3], L j = true)
  w5 : Had L 5 (∀ j ∈ [4], L j = true)
  w7 : Had L 7 (∀ j ∈ [6], L j = true)
  w10 : Had L 10 (∀ j ∈ [8, 9], L j = true)
  w11 : Had L 11 (∀ j ∈ [10], L j = true)
  w12 : Had L 12 (∀ j ∈ [7, 11], L j = true)
  w13 : Had L 13 (∀ j ∈ [12], L j = true)
  w14 : Had L 14 (∀ j ∈ [13], L j = true)
  w15 : Had L 15 (∀ j ∈ [5, 14], L j = true)
  w16 : Had L 16 (∀ j ∈ [15], L j = true)
  w17 : Had L 17 (∀ j ∈ [16], L j = true)
  w18 : Had L 18 (∀ j ∈ [1, 17], L j = true)
  w20 : Had L 20 (∀ j ∈ [0, 1, 2, 3, 4, 5, 6, 7, 8, 9, 10, 11, 12, 13, 14, 15, 16, 17, 18, 19], L j = true)

structure RdBR (tb xb gr gro R cg co j c cu pm prc pn pk kn g4 g5 pc qc B0 : Nat) (pu : Option Addr) (fc : Nat → Int) (zc sg z : Int) (Wc : World) (L : Nat → Bool) (v : Nat → Value) (W : World) : Prop where
  st : L 20 = false → Below Wc.heap.size Wc W
  f0 : Had L 0 (v 121 = .pointer (some ⟨tb, 0, none⟩))
  f1 : Had L 1 (v 122 = .slice pu c cu)
  f2 : Had L 2 (v 123 = .slice (some ⟨g4, 0, none⟩) (kn) (pc))
  f3 : Had L 3 (v 124 = .int .i64 (c : Int))
  f4 : Had L 4 (v 125 = .pointer (some ⟨g4, c, none⟩))
  f5 : Had L 5 (v 126 = .int .i64 sg)
  f6 : Had L 6 (v 127 = .pointer (some ⟨xb, 1, none⟩))
  f7 : Had L 7 (v 128 = .slice (some ⟨gr, gro, none⟩) (pm) (prc))
  f8 : Had L 8 (v 129 = .slice (some ⟨g5, 0, none⟩) (kn) (qc))
  f9 : Had L 9 (v 130 = .int .i64 (c : Int))
  f10 : Had L 10 (v 131 = .pointer (some ⟨g5, c, none⟩))
  f11 : Had L 11 (v 132 = .int .i64 (R : Int))
  f12 : Had L 12 (v 133 = .pointer (some ⟨gr, gro + R * 3, none⟩))
  f13 : Had L 13 (v 134 = .pointer (some ⟨gr, gro + R * 3, none⟩))
  f14 : Had L 14 (v 135 = .slice (some ⟨cg, co, none⟩) (pn) (pk))
  f15 : Had L 15 (v 136 = .int .i64 (j : Int))
  f16 : Had L 16 (v 137 = .pointer (some ⟨cg, co + j, none⟩))
  f17 : Had L 17 (v 138 = .int .i64 zc)
  f18 : Had L 18 (v 139 = .int .i64 z)
  x19 : Had L 19 (L 20 = false → ∃ B, v 140 = .slice (some ⟨B, 0, none⟩) 1 1 ∧ SlR W B [.int .i64 z])
  x20 : Had L 20 (L 22 = false → AppW Wc W B0 3 (.slice pu c cu) c (((List.range c).map fun l => Value.int .i64 (fc l)) ++ [Value.int .i64 z]) (v 141))
  f21 : Had L 21 (v 142 = .pointer (some ⟨tb, 0, none⟩))
  s1 : Had L 22 (∃ W2 gq capq, AppW Wc W2 B0 3 (.slice pu c cu) c (((List.range c).map fun l => Value.int .i64 (fc l)) ++ [Value.int .i64 z]) (.slice (some ⟨gq, 0, none⟩) (c + 1) capq) ∧ W = W2.setCell ⟨tb, 0, none⟩ (.slice (some ⟨gq, 0, none⟩) (c + 1) capq))
  w1 : Had L 1 (∀ j ∈ [0], L j = true)
  w4 : Had L 4 (∀ j ∈ [2, 3], L j = true)
  w5 : Had L 5 (∀ j ∈ [4], L j = true)
  w7 : Had L 7 (∀ j ∈ [6], L j = true)
  w10 : Had L 10 (∀ j ∈ [8, 9], L j = true)
  w11 : Had L 11 (∀ j ∈ [10], L j = true)
  w12 : Had L 12 (∀ j ∈ [7, 11], L j = true)
  w13 : Had L 13 (∀ j ∈ [12], L j = true)
  w14 : Had L 14 (∀ j ∈ [13], L j = true)
  w16 : Had L 16 (∀ j ∈ [14, 15], L j = true)
  w17 : Had L 17 (∀ j ∈ [16], L j = true)
  w18 : Had L 18 (∀ j ∈ [5, 17], L j = true)
  w19 : Had L 19 (∀ j ∈ [18], L j = true)
  w20 : Had L 20 (∀ j ∈ [1, 19], L j = true)
  w22 : Had L 22 (∀ j ∈ [0, 1, 2, 3, 4, 5, 6, 7, 8, 9, 10, 11, 12, 13, 14, 15, 16, 17, 18, 19, 20, 21], L j = true)

set_option maxRecDepth 100000 in
set_option maxHeartbeats 32000000 in
theorem rpDual_any (p : PgD) (hok : p.Ok) (w : World) (hp : p.At w) :
    Calls Try.prog 12 #[p.val] w fun e w' => Below w.heap.size w w' ∧ ∃ q er, e = .returned (.tuple #[q.val, .int .i64 er]) ∧ q.At w' ∧ DuaO p q er := by
  have HP := Lib.hid hp
  have HOK := Lib.hid hok
  have hm6 := hok.m2
  have hn12 := hok.n2
  have hn1 := hok.n1
  have hml : shN p ≤ 12 := shL_len p p.m |> fun h => by unfold shN; omega
  have hb1 : Below w.heap.size w (w.alloc (Obj.cells #[Value.slice p.ca p.n p.cc, .slice p.ra p.m p.rc] 25)) := (Below.refl _ _).alloc (Nat.le_refl _) _
  obtain ⟨w1, hw1⟩ : ∃ W, W = w.alloc (Obj.cells #[Value.slice p.ca p.n p.cc, .slice p.ra p.m p.rc] 25) := ⟨_, rfl⟩
  obtain ⟨xb, hxb⟩ : ∃ x, x = w.heap.size := ⟨_, rfl⟩
  have hB : Blk w1 xb (.slice p.ca p.n p.cc) (.slice p.ra p.m p.rc) := by rw [hw1, hxb]; exact Blk.new _ _ _ _
  rw [← hw1] at hb1
  have hb2 : Below w1.heap.size w1 (w1.alloc (Obj.cells #[Value.slice none 0 0, .slice none 0 0] 25)) := (Below.refl _ _).alloc (Nat.le_refl _) _
  obtain ⟨w2, hw2⟩ : ∃ W, W = w1.alloc (Obj.cells #[Value.slice none 0 0, .slice none 0 0] 25) := ⟨_, rfl⟩
  obtain ⟨gb, hgb⟩ : ∃ x, x = xb + 1 := ⟨_, rfl⟩
  have hgw : gb = w1.heap.size := by rw [hgb, hw1, hxb]; simp
  have hG : Blk w2 gb (.slice none 0 0) (.slice none 0 0) := by rw [hw2, hgw]; exact Blk.new _ _ _ _
  have hF : Frz w2 gb := by rw [hw2, hgw]; exact Frz.new _ _ _ _
  rw [← hw2] at hb2
  have HB := Lib.hid (below_on hb1 hb2)
  have HX := Lib.hid (hB.on hb2)
  have HG := Lib.hid (And.intro hG hF)
  have HGB : Hid (w.heap.size ≤ xb ∧ w.heap.size ≤ gb ∧ xb < gb) := by show _ ∧ _; rw [hgw]; exact ⟨by omega, hb1.size, by have := hB.1; omega⟩
  clear hb1 hb2 hB hG hF hp
  unfold PgD.val
  go_enter Try.func12, Try.ntmps12
  go_upto_region 1 with fail
  rw [← hxb, ← hw1, ← hgb, ← hw2]
  clear hxb hw1 hgb hgw hw2
  have q0 := HX.out.2.1
  have q1 := HX.out.2.2
  by_cases hm0 : p.m = 0
  · have HM0 := Lib.hid hm0
    have hmi : ((p.m : Int) == 0) = true := by rw [hm0]; rfl
    have hmd : decide ((p.m : Int) = 0) = true := by rw [hm0]; rfl
    clear hm0
    go_upto_region 2 with fail
    clear q0 q1
    have H5 := Lib.hid (Blk.set (x := .slice none 0 0) (y := .slice none 0 0) HG.out.1)
    have O5 := Lib.hid (below_sets (x := .slice none 0 0) (y := .slice none 0 0) HB.out HGB.out.2.1)
    obtain ⟨_, c0, c1⟩ := HG.out.1
    obtain ⟨f0, f1⟩ := HG.out.2
    go_wp2_with fail
    clear c0 c1 f0 f1
    generalize (w2.setCell ⟨gb, 0, none⟩ (.slice none 0 0)).setCell ⟨gb, 1, none⟩ (.slice none 0 0) = W5 at *
    have x0 := H5.out.2.1
    have x1 := H5.out.2.2
    (try simp only [Exit.inBlock, Exit.then])
    refine bodyPost_ret (by simp [results, Try.results12, x0, x1, go_sem]; rfl) rfl ?_
    exact ⟨O5.out, zeroPg, 14, rfl, zeroPg_at _, .inr (.inl ⟨rfl, hok, HM0.out, rfl⟩)⟩
  have hmp : 0 < p.m := by omega
  have hmi : ((p.m : Int) == 0) = false := by simp; omega
  have hmd : ¬ ((p.m : Int) = 0) := by omega
  clear hm0
  go_upto_region 4 with fail
  clear hmi hmd q0 q1 hok
  obtain ⟨i0, hi0, hz0, hz1, hz2⟩ := info_parts (show (Try.prog.info? 3).map (fun i => (i.zero, i.size, i.bytes)) = some (some (Value.int IntKind.i64 0), 1, 8) by kernel_rfl)
  have HI := Lib.hid (And.intro hi0 (And.intro hz0 (And.intro hz1 hz2)))
  clear hi0 hz0 hz1 hz2
  obtain ⟨i2, hi0, hz0, hz1, hz2⟩ := info_parts (show (Try.prog.info? 50).map (fun i => (i.zero, i.size, i.bytes)) = some (some (Value.agg #[.slice none 0 0, .int .i64 0, .int .i64 0]), 3, 40) by kernel_rfl)
  have HI2 := Lib.hid (And.intro hi0 (And.intro hz0 (And.intro hz1 hz2)))
  clear hi0 hz0 hz1 hz2
  have S0 : Hid (RL (gb + 1) w2 xb gb (.slice p.ca p.n p.cc) (.slice p.ra p.m p.rc) (.slice none 0 0) (.slice none 0 0) 0 0 (sgL p 0) (rwL p 0) ∧ Below w.heap.size w w2 ∧ 0 = (shL p 0).length ∧ gb + 1 ≤ w2.heap.size) :=
    ⟨⟨HX.out, HG.out.1, HG.out.2, ⟨by have := HGB.out; omega, by omega⟩, ⟨rfl, .inl ⟨rfl, rfl⟩⟩, ⟨rfl, .inl ⟨rfl, rfl⟩⟩, fun q hq => (by cases hq)⟩, HB.out, rfl, HG.out.1.1⟩
  clear HX HG HB
  go_wp2_with fail
  go_loopg [6, 4, 5] p.m (fun g s6 s4 s5 wx => ∃ i n : Nat, s6 = .int .i64 i ∧ g = p.m - i ∧ i ≤ p.m ∧ Hid (RL (gb + 1) wx xb gb (.slice p.ca p.n p.cc) (.slice p.ra p.m p.rc) s4 s5 n n (sgL p i) (rwL p i) ∧ Below w.heap.size w wx ∧ n = (shL p i).length ∧ gb + 1 ≤ wx.heap.size))
  case atStart => exact ⟨0, 0, rfl, rfl, Nat.zero_le _, S0⟩
  case round =>
    clear S0
    obtain ⟨i, n, rfl, rfl, hi, S⟩ := hrel
    rename World => W1
    obtain ⟨pa, pc, e4⟩ := own_form S.out.1.s4
    obtain ⟨pb, qc, e5⟩ := own_form S.out.1.s5
    subst e4 e5
    have q1 := S.out.1.x.2.2
    by_cases hlt : i < p.m
    · have wk : IntKind.i64.wrap ((i : Int) + 1) = ((i + 1 : Nat) : Int) := by rw [IntWalk.i64_in _ (by omega)]; omega
      have hnl : n ≤ 12 := by have h1 := S.out.2.2.1; have := shL_len p i; omega
      have hkk := HOK.out.k i hlt
      obtain ⟨gr, gro, er, hgr, hrow⟩ := (HP.out.on S.out.2.1).rows (by omega)
      have p2 := (hrow i hlt).2.1
      obtain ⟨kd, hkd⟩ : ∃ x, p.Kd i = x := ⟨_, rfl⟩
      rw [hkd] at p2 hkk
      have HKD := Lib.hid hkd
      have HER := Lib.hid er
      have HRK : Hid (∀ W2, Below w.heap.size w W2 → W2.cell? ⟨gr, gro + i * 3 + 1, none⟩ = some (.int .i64 kd)) := fun W2 hb => by
        obtain ⟨gr2, gro2, er2, _, hrow2⟩ := (HP.out.on hb).rows (by omega)
        have e3 : gr2 = gr ∧ gro2 = gro := by rw [er] at er2; injection er2 with e; injection e with e1 e2; exact ⟨e1.symm, e2.symm⟩
        rw [← e3.1, ← e3.2, ← hkd]
        exact (hrow2 i hlt).2.1
      rw [er] at q1
      rw [er]
      clear hrow hkd er hgr
      obtain rfl | rfl | rfl : kd = 1 ∨ kd = 2 ∨ kd = 3 := by omega
      · have HA := Lib.hid (sgL_app (sh_one HKD.out))
        go_upto_region 10 with fail
        clear p2 q1 hkk
        have B1 : Hid (Below W1.heap.size W1 (W1.alloc (Obj.cells #[.int .i64 (-1)] 3))) := (Below.refl _ _).alloc (Nat.le_refl _) _
        have P1 := Lib.hid ((S.out.1).go B1.out)
        have O1 := Lib.hid P1.out.s4
        have A1 : Hid (∀ l u, [Value.int .i64 (-1)][l]? = some u → (W1.alloc (Obj.cells #[.int .i64 (-1)] 3)).cell? ((⟨W1.heap.size, 0, none⟩ : Addr).add l) = some u) := one_news (by simp [go_sem])
        have D1 := Lib.hid (below_on S.out.2.1 B1.out)
        have L1 : Hid (gb + 1 ≤ (W1.alloc (Obj.cells #[.int .i64 (-1)] 3)).heap.size) := Nat.le_trans S.out.2.2.2 B1.out.size
        go_upto_region 11 with (at_builtin; refine wpList_append_lies _ rfl _ _ 22 rfl (gb + 1) 3 i0 (.int .i64 0) 1 8 Try.underlying22 HI.out.1 HI.out.2.1 HI.out.2.2.1 HI.out.2.2.2 rfl (by decide) _ _ _ rfl O1.out ⟨W1.heap.size, 0, none⟩ 1 1 [.int .i64 (-1)] rfl rfl A1.out (by intro u hu; simp at hu; subst hu; rfl) (by omega) (by unfold maxLen; omega) (by omega) L1.out _ rfl ?_; intro q1 cap1 W2 hown hgrow hat hqlt)
        have hA := grown_only (Below.refl _ _) hgrow
        have LX1 : Hid (gb + 1 ≤ W2.heap.size) := Nat.le_trans L1.out hA.size
        have R1 := Lib.hid (And.intro (P1.out.push4 hA hown (hat.imp id fun e => by rw [e]; exact Nat.le_refl _)) (D1.out.trans (hA.below D1.out.size (fun q hq => by have := (O1.out.lt q hq).1; have := HGB.out.2.1; omega))))
        clear hown hgrow hat hqlt hA B1 P1 O1 A1 D1 L1
        have B2 : Hid (Below W2.heap.size W2 (W2.alloc (Obj.cells #[.int .i64 (i : Int)] 3))) := (Below.refl _ _).alloc (Nat.le_refl _) _
        have P2 := Lib.hid ((R1.out.1).go B2.out)
        have O2 := Lib.hid P2.out.s5
        have A2 : Hid (∀ l u, [Value.int .i64 (i : Int)][l]? = some u → (W2.alloc (Obj.cells #[.int .i64 (i : Int)] 3)).cell? ((⟨W2.heap.size, 0, none⟩ : Addr).add l) = some u) := one_news (by simp [go_sem])
        have D2 := Lib.hid (below_on R1.out.2 B2.out)
        have L2 : Hid (gb + 1 ≤ (W2.alloc (Obj.cells #[.int .i64 (i : Int)] 3)).heap.size) := Nat.le_trans LX1.out B2.out.size
        go_upto_region 12 with (at_builtin; refine wpList_append_lies _ rfl _ _ 22 rfl (gb + 1) 3 i0 (.int .i64 0) 1 8 Try.underlying22 HI.out.1 HI.out.2.1 HI.out.2.2.1 HI.out.2.2.2 rfl (by decide) _ _ _ rfl O2.out ⟨W2.heap.size, 0, none⟩ 1 1 [.int .i64 (i : Int)] rfl rfl A2.out (by intro u hu; simp at hu; subst hu; rfl) (by omega) (by unfold maxLen; omega) (by omega) L2.out _ rfl ?_; intro q2 cap2 W3 hown hgrow hat hqlt)
        have hA := grown_only (Below.refl _ _) hgrow
        have LX2 : Hid (gb + 1 ≤ W3.heap.size) := Nat.le_trans L2.out hA.size
        have R2 := Lib.hid (And.intro (P2.out.push5 hA hown (hat.imp id fun e => by rw [e]; exact Nat.le_refl _)) (D2.out.trans (hA.below D2.out.size (fun q hq => by have := (O2.out.lt q hq).1; have := HGB.out.2.1; omega))))
        clear hown hgrow hat hqlt hA B2 P2 O2 A2 D2 L2
        have p2 := HRK.out _ R2.out.2
        have q1 := R2.out.1.x.2.2
        rw [HER.out] at q1
        go_wp2_with fail
        clear p2 q1
        rw [← HER.out]
        go_roundg (p.m - (i + 1))
        case measure => omega
        case rel => exact ⟨i + 1, n + 1, rfl, rfl, by omega, by rw [HA.out.1, HA.out.2.1]; exact R2.out.1, R2.out.2, by rw [HA.out.2.2, ← S.out.2.2.1]; rfl, LX2.out⟩
      · have HA := Lib.hid (sgL_app (sh_two HKD.out))
        go_upto_region 10 with fail
        clear p2 q1 hkk
        have B1 : Hid (Below W1.heap.size W1 (W1.alloc (Obj.cells #[.int .i64 1] 3))) := (Below.refl _ _).alloc (Nat.le_refl _) _
        have P1 := Lib.hid ((S.out.1).go B1.out)
        have O1 := Lib.hid P1.out.s4
        have A1 : Hid (∀ l u, [Value.int .i64 1][l]? = some u → (W1.alloc (Obj.cells #[.int .i64 1] 3)).cell? ((⟨W1.heap.size, 0, none⟩ : Addr).add l) = some u) := one_news (by simp [go_sem])
        have D1 := Lib.hid (below_on S.out.2.1 B1.out)
        have L1 : Hid (gb + 1 ≤ (W1.alloc (Obj.cells #[.int .i64 1] 3)).heap.size) := Nat.le_trans S.out.2.2.2 B1.out.size
        go_upto_region 11 with (at_builtin; refine wpList_append_lies _ rfl _ _ 22 rfl (gb + 1) 3 i0 (.int .i64 0) 1 8 Try.underlying22 HI.out.1 HI.out.2.1 HI.out.2.2.1 HI.out.2.2.2 rfl (by decide) _ _ _ rfl O1.out ⟨W1.heap.size, 0, none⟩ 1 1 [.int .i64 1] rfl rfl A1.out (by intro u hu; simp at hu; subst hu; rfl) (by omega) (by unfold maxLen; omega) (by omega) L1.out _ rfl ?_; intro q1 cap1 W2 hown hgrow hat hqlt)
        have hA := grown_only (Below.refl _ _) hgrow
        have LX1 : Hid (gb + 1 ≤ W2.heap.size) := Nat.le_trans L1.out hA.size
        have R1 := Lib.hid (And.intro (P1.out.push4 hA hown (hat.imp id fun e => by rw [e]; exact Nat.le_refl _)) (D1.out.trans (hA.below D1.out.size (fun q hq => by have := (O1.out.lt q hq).1; have := HGB.out.2.1; omega))))
        clear hown hgrow hat hqlt hA B1 P1 O1 A1 D1 L1
        have B2 : Hid (Below W2.heap.size W2 (W2.alloc (Obj.cells #[.int .i64 (i : Int)] 3))) := (Below.refl _ _).alloc (Nat.le_refl _) _
        have P2 := Lib.hid ((R1.out.1).go B2.out)
        have O2 := Lib.hid P2.out.s5
        have A2 : Hid (∀ l u, [Value.int .i64 (i : Int)][l]? = some u → (W2.alloc (Obj.cells #[.int .i64 (i : Int)] 3)).cell? ((⟨W2.heap.size, 0, none⟩ : Addr).add l) = some u) := one_news (by simp [go_sem])
        have D2 := Lib.hid (below_on R1.out.2 B2.out)
        have L2 : Hid (gb + 1 ≤ (W2.alloc (Obj.cells #[.int .i64 (i : Int)] 3)).heap.size) := Nat.le_trans LX1.out B2.out.size
        go_upto_region 12 with (at_builtin; refine wpList_append_lies _ rfl _ _ 22 rfl (gb + 1) 3 i0 (.int .i64 0) 1 8 Try.underlying22 HI.out.1 HI.out.2.1 HI.out.2.2.1 HI.out.2.2.2 rfl (by decide) _ _ _ rfl O2.out ⟨W2.heap.size, 0, none⟩ 1 1 [.int .i64 (i : Int)] rfl rfl A2.out (by intro u hu; simp at hu; subst hu; rfl) (by omega) (by unfold maxLen; omega) (by omega) L2.out _ rfl ?_; intro q2 cap2 W3 hown hgrow hat hqlt)
        have hA := grown_only (Below.refl _ _) hgrow
        have LX2 : Hid (gb + 1 ≤ W3.heap.size) := Nat.le_trans L2.out hA.size
        have R2 := Lib.hid (And.intro (P2.out.push5 hA hown (hat.imp id fun e => by rw [e]; exact Nat.le_refl _)) (D2.out.trans (hA.below D2.out.size (fun q hq => by have := (O2.out.lt q hq).1; have := HGB.out.2.1; omega))))
        clear hown hgrow hat hqlt hA B2 P2 O2 A2 D2 L2
        have p2 := HRK.out _ R2.out.2
        have q1 := R2.out.1.x.2.2
        rw [HER.out] at q1
        go_wp2_with fail
        clear p2 q1
        rw [← HER.out]
        go_roundg (p.m - (i + 1))
        case measure => omega
        case rel => exact ⟨i + 1, n + 1, rfl, rfl, by omega, by rw [HA.out.1, HA.out.2.1]; exact R2.out.1, R2.out.2, by rw [HA.out.2.2, ← S.out.2.2.1]; rfl, LX2.out⟩
      · have HA := Lib.hid (sgL_app (l := [(i, 1), (i, -1)]) (by rw [sh_three HKD.out, List.append_assoc]; rfl))
        go_upto_region 10 with fail
        clear p2 q1 hkk
        have B1 : Hid (Below W1.heap.size W1 (W1.alloc (Obj.cells #[.int .i64 1] 3))) := (Below.refl _ _).alloc (Nat.le_refl _) _
        have P1 := Lib.hid ((S.out.1).go B1.out)
        have O1 := Lib.hid P1.out.s4
        have A1 : Hid (∀ l u, [Value.int .i64 1][l]? = some u → (W1.alloc (Obj.cells #[.int .i64 1] 3)).cell? ((⟨W1.heap.size, 0, none⟩ : Addr).add l) = some u) := one_news (by simp [go_sem])
        have D1 := Lib.hid (below_on S.out.2.1 B1.out)
        have L1 : Hid (gb + 1 ≤ (W1.alloc (Obj.cells #[.int .i64 1] 3)).heap.size) := Nat.le_trans S.out.2.2.2 B1.out.size
        go_upto_region 11 with (at_builtin; refine wpList_append_lies _ rfl _ _ 22 rfl (gb + 1) 3 i0 (.int .i64 0) 1 8 Try.underlying22 HI.out.1 HI.out.2.1 HI.out.2.2.1 HI.out.2.2.2 rfl (by decide) _ _ _ rfl O1.out ⟨W1.heap.size, 0, none⟩ 1 1 [.int .i64 1] rfl rfl A1.out (by intro u hu; simp at hu; subst hu; rfl) (by omega) (by unfold maxLen; omega) (by omega) L1.out _ rfl ?_; intro q1 cap1 W2 hown hgrow hat hqlt)
        have hA := grown_only (Below.refl _ _) hgrow
        have LX1 : Hid (gb + 1 ≤ W2.heap.size) := Nat.le_trans L1.out hA.size
        have R1 := Lib.hid (And.intro (P1.out.push4 hA hown (hat.imp id fun e => by rw [e]; exact Nat.le_refl _)) (D1.out.trans (hA.below D1.out.size (fun q hq => by have := (O1.out.lt q hq).1; have := HGB.out.2.1; omega))))
        clear hown hgrow hat hqlt hA B1 P1 O1 A1 D1 L1
        have B2 : Hid (Below W2.heap.size W2 (W2.alloc (Obj.cells #[.int .i64 (i : Int)] 3))) := (Below.refl _ _).alloc (Nat.le_refl _) _
        have P2 := Lib.hid ((R1.out.1).go B2.out)
        have O2 := Lib.hid P2.out.s5
        have A2 : Hid (∀ l u, [Value.int .i64 (i : Int)][l]? = some u → (W2.alloc (Obj.cells #[.int .i64 (i : Int)] 3)).cell? ((⟨W2.heap.size, 0, none⟩ : Addr).add l) = some u) := one_news (by simp [go_sem])
        have D2 := Lib.hid (below_on R1.out.2 B2.out)
        have L2 : Hid (gb + 1 ≤ (W2.alloc (Obj.cells #[.int .i64 (i : Int)] 3)).heap.size) := Nat.le_trans LX1.out B2.out.size
        go_upto_region 12 with (at_builtin; refine wpList_append_lies _ rfl _ _ 22 rfl (gb + 1) 3 i0 (.int .i64 0) 1 8 Try.underlying22 HI.out.1 HI.out.2.1 HI.out.2.2.1 HI.out.2.2.2 rfl (by decide) _ _ _ rfl O2.out ⟨W2.heap.size, 0, none⟩ 1 1 [.int .i64 (i : Int)] rfl rfl A2.out (by intro u hu; simp at hu; subst hu; rfl) (by omega) (by unfold maxLen; omega) (by omega) L2.out _ rfl ?_; intro q2 cap2 W3 hown hgrow hat hqlt)
        have hA := grown_only (Below.refl _ _) hgrow
        have LX2 : Hid (gb + 1 ≤ W3.heap.size) := Nat.le_trans L2.out hA.size
        have R2 := Lib.hid (And.intro (P2.out.push5 hA hown (hat.imp id fun e => by rw [e]; exact Nat.le_refl _)) (D2.out.trans (hA.below D2.out.size (fun q hq => by have := (O2.out.lt q hq).1; have := HGB.out.2.1; omega))))
        clear hown hgrow hat hqlt hA B2 P2 O2 A2 D2 L2
        have p2 := HRK.out _ R2.out.2
        have q1 := R2.out.1.x.2.2
        rw [HER.out] at q1
        go_upto_region 13 with fail
        clear p2 q1
        have B3 : Hid (Below W3.heap.size W3 (W3.alloc (Obj.cells #[.int .i64 (-1)] 3))) := (Below.refl _ _).alloc (Nat.le_refl _) _
        have P3 := Lib.hid ((R2.out.1).go B3.out)
        have O3 := Lib.hid P3.out.s4
        have A3 : Hid (∀ l u, [Value.int .i64 (-1)][l]? = some u → (W3.alloc (Obj.cells #[.int .i64 (-1)] 3)).cell? ((⟨W3.heap.size, 0, none⟩ : Addr).add l) = some u) := one_news (by simp [go_sem])
        have D3 := Lib.hid (below_on R2.out.2 B3.out)
        have L3 : Hid (gb + 1 ≤ (W3.alloc (Obj.cells #[.int .i64 (-1)] 3)).heap.size) := Nat.le_trans LX2.out B3.out.size
        go_upto_region 14 with (at_builtin; refine wpList_append_lies _ rfl _ _ 22 rfl (gb + 1) 3 i0 (.int .i64 0) 1 8 Try.underlying22 HI.out.1 HI.out.2.1 HI.out.2.2.1 HI.out.2.2.2 rfl (by decide) _ _ _ rfl O3.out ⟨W3.heap.size, 0, none⟩ 1 1 [.int .i64 (-1)] rfl rfl A3.out (by intro u hu; simp at hu; subst hu; rfl) (by omega) (by unfold maxLen; omega) (by omega) L3.out _ rfl ?_; intro q3 cap3 W4 hown hgrow hat hqlt)
        have hA := grown_only (Below.refl _ _) hgrow
        have LX3 : Hid (gb + 1 ≤ W4.heap.size) := Nat.le_trans L3.out hA.size
        have R3 := Lib.hid (And.intro (P3.out.push4 hA hown (hat.imp id fun e => by rw [e]; exact Nat.le_refl _)) (D3.out.trans (hA.below D3.out.size (fun q hq => by have := (O3.out.lt q hq).1; have := HGB.out.2.1; omega))))
        clear hown hgrow hat hqlt hA B3 P3 O3 A3 D3 L3
        have B4 : Hid (Below W4.heap.size W4 (W4.alloc (Obj.cells #[.int .i64 (i : Int)] 3))) := (Below.refl _ _).alloc (Nat.le_refl _) _
        have P4 := Lib.hid ((R3.out.1).go B4.out)
        have O4 := Lib.hid P4.out.s5
        have A4 : Hid (∀ l u, [Value.int .i64 (i : Int)][l]? = some u → (W4.alloc (Obj.cells #[.int .i64 (i : Int)] 3)).cell? ((⟨W4.heap.size, 0, none⟩ : Addr).add l) = some u) := one_news (by simp [go_sem])
        have D4 := Lib.hid (below_on R3.out.2 B4.out)
        have L4 : Hid (gb + 1 ≤ (W4.alloc (Obj.cells #[.int .i64 (i : Int)] 3)).heap.size) := Nat.le_trans LX3.out B4.out.size
        go_upto_region 6 with (at_builtin; refine wpList_append_lies _ rfl _ _ 22 rfl (gb + 1) 3 i0 (.int .i64 0) 1 8 Try.underlying22 HI.out.1 HI.out.2.1 HI.out.2.2.1 HI.out.2.2.2 rfl (by decide) _ _ _ rfl O4.out ⟨W4.heap.size, 0, none⟩ 1 1 [.int .i64 (i : Int)] rfl rfl A4.out (by intro u hu; simp at hu; subst hu; rfl) (by omega) (by unfold maxLen; omega) (by omega) L4.out _ rfl ?_; intro q4 cap4 W5 hown hgrow hat hqlt)
        have hA := grown_only (Below.refl _ _) hgrow
        have LX4 : Hid (gb + 1 ≤ W5.heap.size) := Nat.le_trans L4.out hA.size
        have R4 := Lib.hid (And.intro (P4.out.push5 hA hown (hat.imp id fun e => by rw [e]; exact Nat.le_refl _)) (D4.out.trans (hA.below D4.out.size (fun q hq => by have := (O4.out.lt q hq).1; have := HGB.out.2.1; omega))))
        clear hown hgrow hat hqlt hA B4 P4 O4 A4 D4 L4
        go_wp2_with fail
        rw [← HER.out]
        go_roundg (p.m - (i + 1))
        case measure => omega
        case rel => exact ⟨i + 1, n + 1 + 1, rfl, rfl, by omega, by rw [HA.out.1, HA.out.2.1]; have h9 := R4.out.1; rw [List.append_assoc, List.append_assoc] at h9; exact h9, R4.out.2, by rw [HA.out.2.2, ← S.out.2.2.1]; rfl, LX4.out⟩
    · have e : i = p.m := by omega
      subst e
      have hnn : n = shN p := S.out.2.2.1
      subst hnn
      clear hlt hi
      have q0 := S.out.1.x.2.1
      have HX := Lib.hid S.out.1.x
      have HG := Lib.hid (And.intro S.out.1.g S.out.1.gz)
      have HB := Lib.hid S.out.2.1
      have d2 : ¬ (12 : Int) < (shN p : Int) := by omega
      by_cases hn6 : p.n ≤ 6
      case neg =>
        have d1 : (6 : Int) < (p.n : Int) := by omega
        have hd1 : decide ((6 : Int) < (p.n : Int)) = true := decide_eq_true d1
        have HN6 := Lib.hid hn6
        clear hn6
        have H5 := Lib.hid (Blk.set (x := .slice none 0 0) (y := .slice none 0 0) HG.out.1)
        have O5 := Lib.hid (below_sets (x := .slice none 0 0) (y := .slice none 0 0) HB.out HGB.out.2.1)
        obtain ⟨_, c0, c1⟩ := HG.out.1
        obtain ⟨f0, f1⟩ := HG.out.2
        go_wp2_with fail
        clear c0 c1 f0 f1
        generalize (W1.setCell ⟨gb, 0, none⟩ (.slice none 0 0)).setCell ⟨gb, 1, none⟩ (.slice none 0 0) = W5 at *
        have x0 := H5.out.2.1
        have x1 := H5.out.2.2
        (try simp only [Exit.inBlock, Exit.then])
        refine bodyPost_ret (by simp [results, Try.results12, x0, x1, go_sem]; rfl) rfl ?_
        exact ⟨O5.out, zeroPg, 4, rfl, zeroPg_at _, .inr (.inr (.inl ⟨rfl, HOK.out, hmp, fun h => HN6.out h.1, rfl⟩))⟩
      have d1 : ¬ (6 : Int) < (p.n : Int) := by omega
      have hd1 : decide ((6 : Int) < (p.n : Int)) = false := decide_eq_false d1
      have hd2 : decide ((12 : Int) < (shN p : Int)) = false := decide_eq_false d2
      have hkp : 0 < shN p := by have := shL_pos p p.m; unfold shN; omega
      obtain ⟨g4, c4, f4⟩ := own_some S.out.1.s4 hkp
      obtain ⟨g5, c5, f5⟩ := own_some S.out.1.s5 hkp
      have f4 : pa = some ⟨g4, 0, none⟩ ∧ pc = c4 := by injection f4 with a b c; exact ⟨a, c⟩
      have f5 : pb = some ⟨g5, 0, none⟩ ∧ qc = c5 := by injection f5 with a b c; exact ⟨a, c⟩
      obtain ⟨rfl, rfl⟩ := f4
      obtain ⟨rfl, rfl⟩ := f5
      go_upto_region 18 with fail
      have hb6 : Below W1.heap.size W1 (W1.alloc (Obj.cells #[Value.slice none 0 0, .slice none 0 0] 25)) := (Below.refl _ _).alloc (Nat.le_refl _) _
      obtain ⟨w6, hw6⟩ : ∃ W, W = W1.alloc (Obj.cells #[Value.slice none 0 0, .slice none 0 0] 25) := ⟨_, rfl⟩
      obtain ⟨db, hdb⟩ : ∃ x, x = W1.heap.size := ⟨_, rfl⟩
      rw [← hdb, ← hw6]
      have S1 : Hid (RDu p w.heap.size w6 xb gb db (.slice (some ⟨g4, 0, none⟩) (shN p) pc) (.slice (some ⟨g5, 0, none⟩) (shN p) qc) 0 0 (.slice none 0 0) (.slice none 0 0) (fun _ => none) (fun _ => 0) ∧ Below w.heap.size w w6 ∧ ∀ k, k < 0 → -1048576 ≤ p.Rt (shR p k) ∧ p.Rt (shR p k) ≤ 1048576) := by
        rw [← hw6] at hb6
        have e1 : Blk w6 db (.slice none 0 0) (.slice none 0 0) := by rw [hw6, hdb]; exact Blk.new _ _ _ _
        have e2 : Frz w6 db := by rw [hw6, hdb]; exact Frz.new _ _ _ _
        have a1 := HX.out.1
        have a2 := HG.out.1.1
        have s4 := S.out.1.s4
        have s5 := S.out.1.s5
        rw [sgL_vals] at s4
        rw [rwL_vals] at s5
        have bl : w.heap.size ≤ gb + 1 := by have := HGB.out.2.1; omega
        exact ⟨⟨HX.out.on hb6, HG.out.1.on hb6, HG.out.2.on HG.out.1.1 hb6, own_mono (own_only s4 (Only.of_below (S := fun _ => False) hb6) (fun _ _ q => q)) bl, own_mono (own_only s5 (Only.of_below (S := fun _ => False) hb6) (fun _ _ q => q)) bl, e1, e2, ⟨rfl, .inl ⟨rfl, rfl⟩⟩, ⟨rfl, .inl ⟨rfl, rfl⟩⟩, fun l hl => absurd hl (Nat.not_lt_zero _), ⟨HGB.out.1, HGB.out.2.1, by have := HB.out.size; omega⟩, ⟨by omega, by omega⟩,
          fun q hq => by
            rcases hq with hq | hq
            · have := (s4.lt q hq).2; omega
            · have := (s5.lt q hq).2; omega, fun q hq => (by cases hq), fun q hq => (by cases hq), fun l hl => absurd hl (Nat.not_lt_zero _)⟩, below_on HB.out hb6, fun k hk => absurd hk (Nat.not_lt_zero _)⟩
      clear hb6 hw6 hdb HB HX HG S d1 d2 hd1 hd2 q0 q1
      go_wp2_with fail
      go_loopg [9] (shN p) (fun g s9 wx => ∃ c : Nat, s9 = .int .i64 c ∧ g = shN p - c ∧ c ≤ shN p ∧ ∃ cv, Hid (RDu p w.heap.size wx xb gb db (.slice (some ⟨g4, 0, none⟩) (shN p) pc) (.slice (some ⟨g5, 0, none⟩) (shN p) qc) c 0 cv (.slice none 0 0) (fun _ => none) (fun _ => 0) ∧ Below w.heap.size w wx ∧ ∀ k, k < c → -1048576 ≤ p.Rt (shR p k) ∧ p.Rt (shR p k) ≤ 1048576))
      case atStart => exact ⟨0, rfl, rfl, Nat.zero_le _, _, S1⟩
      case round =>
        clear S1
        obtain ⟨c, rfl, rfl, hc, cv, S⟩ := hrel
        rename World => W1
        by_cases hlt : c < shN p
        · have wk : IntKind.i64.wrap ((c : Int) + 1) = ((c + 1 : Nat) : Int) := by rw [IntWalk.i64_in _ (by omega)]; omega
          obtain ⟨pa, cc, hcv⟩ := own_form S.out.1.c
          subst hcv
          have hgt := sgL_get hlt
          have g0 := (S.out.1.s4.cellAt c (by omega)).trans hgt.1
          have g1 := (S.out.1.s5.cellAt c (by omega)).trans hgt.2
          have hRk := sh_at hlt
          have hrr := HOK.out.r _ hRk.1
          obtain ⟨gr, gro, er, hgr, hrow⟩ := (HP.out.on S.out.2.1).rows (by omega)
          have hq3 := (hrow _ hRk.1).2.2
          have e1 : duC p c = -(shS p c) * p.Rt (shR p c) := rfl
          obtain ⟨R, hR⟩ : ∃ x, shR p c = x := ⟨_, rfl⟩
          obtain ⟨sg, hsg⟩ : ∃ x, shS p c = x := ⟨_, rfl⟩
          have HRC := Lib.hid hR
          rw [hR] at hRk hrr hq3 e1 g1
          rw [hsg] at hRk e1 g0
          obtain ⟨rt, hrt⟩ : ∃ x, p.Rt R = x := ⟨_, rfl⟩
          rw [hrt] at hrr hq3 e1
          have HRT := Lib.hid hrt
          obtain ⟨y, hy⟩ : ∃ x, x = sg * rt := ⟨_, rfl⟩
          obtain ⟨z, hz⟩ : ∃ x, x = 0 - y := ⟨_, rfl⟩
          have wm : IntKind.i64.wrap (sg * rt) = y := by rw [IntWalk.i64_in _ (by rcases hRk.2 with h | h <;> rw [h.1] <;> omega)]; exact hy.symm
          have wn : IntKind.i64.wrap (0 - y) = z := by rw [IntWalk.i64_in _ (by rw [hy]; rcases hRk.2 with h | h <;> rw [h.1] <;> omega)]; exact hz.symm
          have wn2 : IntKind.i64.wrap (-y) = z := by rw [← wn]; congr 1; omega
          have HZ : Hid (z = duC p c) := by show z = _; rw [e1, hz, hy, Int.neg_mul]; omega
          have lR : (R : Int) < (p.m : Int) := by omega
          have lR2 := hRk.1
          have lK : (c : Int) < (shN p : Int) := by omega
          have LS0 : Hid (W1.cell? ⟨g4, c, none⟩ = some (.int .i64 sg) ∧ g4 < W1.heap.size) := ⟨g0, (S.out.1.s4.lt g4 rfl).2⟩
          have LS1 : Hid (W1.cell? ⟨g5, c, none⟩ = some (.int .i64 (R : Int)) ∧ g5 < W1.heap.size) := ⟨g1, (S.out.1.s5.lt g5 rfl).2⟩
          have LX1 : Hid (W1.cell? ⟨xb, 1, none⟩ = some (.slice (some ⟨gr, gro, none⟩) p.m p.rc) ∧ xb < W1.heap.size) := ⟨by rw [← er]; exact S.out.1.x.2.2, S.out.1.x.1⟩
          have LR2 : Hid (W1.cell? ⟨gr, gro + R * 3 + 2, none⟩ = some (.int .i64 rt) ∧ gr < W1.heap.size) := ⟨hq3, hgr⟩
          obtain ⟨tb, htb⟩ : ∃ x, decide (-1048576 ≤ rt ∧ rt ≤ 1048576) = x := ⟨_, rfl⟩
          have CW := fun W => Lib.hid (rpWithin_v rt 1048576 tb htb W (by omega) (by omega))
          have HTB := Lib.hid htb
          clear hrow hRk hrr hq3 hgr e1 hR hsg hrt hy hz g0 g1 hgt htb
          rw [er]
          go_upto_region 21 with fail
          refine wp_region_each (fun L A W => ∃ (v : Nat → Value), A = ⟨#[_, _, _, _, _, _, _, _, _, _, _, _, _, _, _, _, _, _, _, _, _, _, _, _, _, _, _, _, _, _, _, _, _, _, _, _, _, _, _, _, _, _, _, _, _, _, _, _, _, _, _, _, _, _, _, _, _, _, _, _, _, _, _, _, _, _, _, _, _, _, v 70, v 71, v 72, v 73, v 74, v 75, v 76, v 77, v 78, v 79, v 80, _, _, _, _, _, _, _, _, _, _, _, _, _, _, _, _, _, _, _, _, _, _, _, _, _, _, _, _, _, _, _, _, _, _, _, _, _, _, _, _, _, _, _, _, _, _, _, _, _, _, _, _, _, _, _, _, _, _, _, _, _, _, _, _, _, _, _, _, _], []⟩ ∧ RdCR xb gr gro R c p.m p.rc (shN p) g5 qc rt tb W1 L v W) (by kernel_rfl) (by kernel_rfl) ⟨fun jz => if jz = 70 then u70 else if jz = 71 then u71 else if jz = 72 then u72 else if jz = 73 then u73 else if jz = 74 then u74 else if jz = 75 then u75 else if jz = 76 then u76 else if jz = 77 then u77 else if jz = 78 then u78 else if jz = 79 then u79 else if jz = 80 then u80 else undef, rfl, ⟨Below.drew (Below.refl _ _), Had.none, Had.none, Had.none, Had.none, Had.none, Had.none, Had.none, Had.none, Had.none, Had.none, Had.none, Had.none, Had.none, Had.none, Had.none, Had.none, Had.none, Had.none, Had.none⟩⟩ (rs := [0, 1, 2, 3, 4, 5, 6, 7, 8, 9, 10]) (by kernel_rfl) ?_ ?_
          · refine EachOf.cons [] rfl (by kernel_rfl) ?_ ?_
            · rintro L A W ⟨v, rfl, hR⟩ hi hw K hK
              go_simp
              refine hK.out _ _ ?_
              exact ⟨(fun jz => if jz = 70 then .pointer (some ⟨xb, 1, none⟩) else v jz), rfl, ⟨hR.st, (fun _ => rfl), hR.f1.k rfl, hR.f2.k rfl, hR.f3.k rfl, hR.f4.k rfl, hR.f5.k rfl, hR.f6.k rfl, hR.f7.k rfl, hR.f8.k rfl, hR.f9.k rfl, hR.f10.k rfl, hR.w1.o rfl, hR.w4.o rfl, hR.w5.o rfl, hR.w6.o rfl, hR.w7.o rfl, hR.w8.o rfl, hR.w9.o rfl, hR.w10.o rfl⟩⟩
            refine EachOf.cons [0] rfl (by kernel_rfl) ?_ ?_
            · rintro L A W ⟨v, rfl, hR⟩ hi hw K hK
              have e0 := hR.f0 (hw 0 (by simp))
              simp only [e0]
              clear e0
              have q0 := (hR.st.cell (p := ⟨xb, 1, none⟩) LX1.out.2).trans LX1.out.1
              go_simp
              refine hK.out _ _ ?_
              exact ⟨(fun jz => if jz = 70 then .pointer (some ⟨xb, 1, none⟩) else if jz = 71 then .slice (some ⟨gr, gro, none⟩) (p.m) (p.rc) else v jz), rfl, ⟨hR.st, (fun _ => rfl), (fun _ => rfl), hR.f2.k rfl, hR.f3.k rfl, hR.f4.k rfl, hR.f5.k rfl, hR.f6.k rfl, hR.f7.k rfl, hR.f8.k rfl, hR.f9.k rfl, hR.f10.k rfl, (fun _ j hj => upd_on (hw j hj)), hR.w4.o rfl, hR.w5.o rfl, hR.w6.o rfl, hR.w7.o rfl, hR.w8.o rfl, hR.w9.o rfl, hR.w10.o rfl⟩⟩
            refine EachOf.cons [] rfl (by kernel_rfl) ?_ ?_
            · rintro L A W ⟨v, rfl, hR⟩ hi hw K hK
              go_simp
              refine hK.out _ _ ?_
              exact ⟨(fun jz => if jz = 72 then .slice (some ⟨g5, 0, none⟩) (shN p) (qc) else v jz), rfl, ⟨hR.st, hR.f0.k rfl, hR.f1.k rfl, (fun _ => rfl), hR.f3.k rfl, hR.f4.k rfl, hR.f5.k rfl, hR.f6.k rfl, hR.f7.k rfl, hR.f8.k rfl, hR.f9.k rfl, hR.f10.k rfl, hR.w1.o rfl, hR.w4.o rfl, hR.w5.o rfl, hR.w6.o rfl, hR.w7.o rfl, hR.w8.o rfl, hR.w9.o rfl, hR.w10.o rfl⟩⟩
            refine EachOf.cons [] rfl (by kernel_rfl) ?_ ?_
            · rintro L A W ⟨v, rfl, hR⟩ hi hw K hK
              go_simp
              refine hK.out _ _ ?_
              exact ⟨(fun jz => if jz = 73 then .int .i64 (c : Int) else v jz), rfl, ⟨hR.st, hR.f0.k rfl, hR.f1.k rfl, hR.f2.k rfl, (fun _ => rfl), hR.f4.k rfl, hR.f5.k rfl, hR.f6.k rfl, hR.f7.k rfl, hR.f8.k rfl, hR.f9.k rfl, hR.f10.k rfl, hR.w1.o rfl, hR.w4.o rfl, hR.w5.o rfl, hR.w6.o rfl, hR.w7.o rfl, hR.w8.o rfl, hR.w9.o rfl, hR.w10.o rfl⟩⟩
            refine EachOf.cons [2, 3] rfl (by kernel_rfl) ?_ ?_
            · rintro L A W ⟨v, rfl, hR⟩ hi hw K hK
              have e2 := hR.f2 (hw 2 (by simp))
              have e3 := hR.f3 (hw 3 (by simp))
              simp only [e2, e3]
              clear e2 e3
              go_simp
              refine hK.out _ _ ?_
              exact ⟨(fun jz => if jz = 72 then .slice (some ⟨g5, 0, none⟩) (shN p) (qc) else if jz = 73 then .int .i64 (c : Int) else if jz = 74 then .pointer (some ⟨g5, c, none⟩) else v jz), rfl, ⟨hR.st, hR.f0.k rfl, hR.f1.k rfl, (fun _ => rfl), (fun _ => rfl), (fun _ => rfl), hR.f5.k rfl, hR.f6.k rfl, hR.f7.k rfl, hR.f8.k rfl, hR.f9.k rfl, hR.f10.k rfl, hR.w1.o rfl, (fun _ j hj => upd_on (hw j hj)), hR.w5.o rfl, hR.w6.o rfl, hR.w7.o rfl, hR.w8.o rfl, hR.w9.o rfl, hR.w10.o rfl⟩⟩
            refine EachOf.cons [4] rfl (by kernel_rfl) ?_ ?_
            · rintro L A W ⟨v, rfl, hR⟩ hi hw K hK
              have e4 := hR.f4 (hw 4 (by simp))
              simp only [e4]
              clear e4
              have q0 := (hR.st.cell (p := ⟨g5, c, none⟩) LS1.out.2).trans LS1.out.1
              go_simp
              refine hK.out _ _ ?_
              exact ⟨(fun jz => if jz = 74 then .pointer (some ⟨g5, c, none⟩) else if jz = 75 then .int .i64 (R : Int) else v jz), rfl, ⟨hR.st, hR.f0.k rfl, hR.f1.k rfl, hR.f2.k rfl, hR.f3.k rfl, (fun _ => rfl), (fun _ => rfl), hR.f6.k rfl, hR.f7.k rfl, hR.f8.k rfl, hR.f9.k rfl, hR.f10.k rfl, hR.w1.o rfl, hR.w4.o rfl, (fun _ j hj => upd_on (hw j hj)), hR.w6.o rfl, hR.w7.o rfl, hR.w8.o rfl, hR.w9.o rfl, hR.w10.o rfl⟩⟩
            refine EachOf.cons [1, 5] rfl (by kernel_rfl) ?_ ?_
            · rintro L A W ⟨v, rfl, hR⟩ hi hw K hK
              have e1 := hR.f1 (hw 1 (by simp))
              have e5 := hR.f5 (hw 5 (by simp))
              simp only [e1, e5]
              clear e1 e5
              go_simp
              refine hK.out _ _ ?_
              exact ⟨(fun jz => if jz = 71 then .slice (some ⟨gr, gro, none⟩) (p.m) (p.rc) else if jz = 75 then .int .i64 (R : Int) else if jz = 76 then .pointer (some ⟨gr, gro + R * 3, none⟩) else v jz), rfl, ⟨hR.st, hR.f0.k rfl, (fun _ => rfl), hR.f2.k rfl, hR.f3.k rfl, hR.f4.k rfl, (fun _ => rfl), (fun _ => rfl), hR.f7.k rfl, hR.f8.k rfl, hR.f9.k rfl, hR.f10.k rfl, hR.w1.o rfl, hR.w4.o rfl, hR.w5.o rfl, (fun _ j hj => upd_on (hw j hj)), hR.w7.o rfl, hR.w8.o rfl, hR.w9.o rfl, hR.w10.o rfl⟩⟩
            refine EachOf.cons [6] rfl (by kernel_rfl) ?_ ?_
            · rintro L A W ⟨v, rfl, hR⟩ hi hw K hK
              have e6 := hR.f6 (hw 6 (by simp))
              simp only [e6]
              clear e6
              go_simp
              refine hK.out _ _ ?_
              exact ⟨(fun jz => if jz = 76 then .pointer (some ⟨gr, gro + R * 3, none⟩) else if jz = 77 then .pointer (some ⟨gr, gro + R * 3 + 2, none⟩) else v jz), rfl, ⟨hR.st, hR.f0.k rfl, hR.f1.k rfl, hR.f2.k rfl, hR.f3.k rfl, hR.f4.k rfl, hR.f5.k rfl, (fun _ => rfl), (fun _ => rfl), hR.f8.k rfl, hR.f9.k rfl, hR.f10.k rfl, hR.w1.o rfl, hR.w4.o rfl, hR.w5.o rfl, hR.w6.o rfl, (fun _ j hj => upd_on (hw j hj)), hR.w8.o rfl, hR.w9.o rfl, hR.w10.o rfl⟩⟩
            refine EachOf.cons [7] rfl (by kernel_rfl) ?_ ?_
            · rintro L A W ⟨v, rfl, hR⟩ hi hw K hK
              have e7 := hR.f7 (hw 7 (by simp))
              simp only [e7]
              clear e7
              have q0 := (hR.st.cell (p := ⟨gr, gro + R * 3 + 2, none⟩) LR2.out.2).trans LR2.out.1
              go_simp
              refine hK.out _ _ ?_
              exact ⟨(fun jz => if jz = 77 then .pointer (some ⟨gr, gro + R * 3 + 2, none⟩) else if jz = 78 then .int .i64 rt else v jz), rfl, ⟨hR.st, hR.f0.k rfl, hR.f1.k rfl, hR.f2.k rfl, hR.f3.k rfl, hR.f4.k rfl, hR.f5.k rfl, hR.f6.k rfl, (fun _ => rfl), (fun _ => rfl), hR.f9.k rfl, hR.f10.k rfl, hR.w1.o rfl, hR.w4.o rfl, hR.w5.o rfl, hR.w6.o rfl, hR.w7.o rfl, (fun _ j hj => upd_on (hw j hj)), hR.w9.o rfl, hR.w10.o rfl⟩⟩
            refine EachOf.cons [8] rfl (by kernel_rfl) ?_ ?_
            · rintro L A W ⟨v, rfl, hR⟩ hi hw K hK
              have e8 := hR.f8 (hw 8 (by simp))
              simp only [e8]
              clear e8
              go_simp
              go_at_call 29
              (with_reducible refine (((CW W)).out.mono ?_))
              rintro e w2 ⟨rfl, hb⟩
              go_simp
              refine hK.out _ _ ?_
              exact ⟨(fun jz => if jz = 78 then .int .i64 rt else if jz = 79 then .bool tb else v jz), rfl, ⟨below_on hR.st hb, hR.f0.k rfl, hR.f1.k rfl, hR.f2.k rfl, hR.f3.k rfl, hR.f4.k rfl, hR.f5.k rfl, hR.f6.k rfl, hR.f7.k rfl, (fun _ => rfl), (fun _ => rfl), hR.f10.k rfl, hR.w1.o rfl, hR.w4.o rfl, hR.w5.o rfl, hR.w6.o rfl, hR.w7.o rfl, hR.w8.o rfl, (fun _ j hj => upd_on (hw j hj)), hR.w10.o rfl⟩⟩
            refine EachOf.cons [9] rfl (by kernel_rfl) ?_ ?_
            · rintro L A W ⟨v, rfl, hR⟩ hi hw K hK
              have e9 := hR.f9 (hw 9 (by simp))
              simp only [e9]
              clear e9
              go_simp
              refine hK.out _ _ ?_
              exact ⟨(fun jz => if jz = 79 then .bool tb else if jz = 80 then .bool (!tb) else v jz), rfl, ⟨hR.st, hR.f0.k rfl, hR.f1.k rfl, hR.f2.k rfl, hR.f3.k rfl, hR.f4.k rfl, hR.f5.k rfl, hR.f6.k rfl, hR.f7.k rfl, hR.f8.k rfl, (fun _ => rfl), (fun _ => rfl), hR.w1.o rfl, hR.w4.o rfl, hR.w5.o rfl, hR.w6.o rfl, hR.w7.o rfl, hR.w8.o rfl, hR.w9.o rfl, (fun _ j hj => upd_on (hw j hj))⟩⟩
            exact EachOf.nil
          rintro L A W ⟨v, rfl, hR⟩ hL
          have HBW := Lib.hid hR.st
          simp only [hR.f10 (hL 10 (by simp))]
          clear hR hL CW
          have S2 := Lib.hid (And.intro (S.out.1.go HBW.out) (And.intro (below_on S.out.2.1 HBW.out) S.out.2.2))
          have LS0 : Hid (W.cell? ⟨g4, c, none⟩ = some (.int .i64 sg) ∧ g4 < W.heap.size) := ⟨(HBW.out.cell (p := ⟨g4, c, none⟩) LS0.out.2).trans LS0.out.1, Nat.lt_of_lt_of_le LS0.out.2 HBW.out.size⟩
          have LS1 : Hid (W.cell? ⟨g5, c, none⟩ = some (.int .i64 (R : Int)) ∧ g5 < W.heap.size) := ⟨(HBW.out.cell (p := ⟨g5, c, none⟩) LS1.out.2).trans LS1.out.1, Nat.lt_of_lt_of_le LS1.out.2 HBW.out.size⟩
          have LX1 : Hid (W.cell? ⟨xb, 1, none⟩ = some (.slice (some ⟨gr, gro, none⟩) p.m p.rc) ∧ xb < W.heap.size) := ⟨(HBW.out.cell (p := ⟨xb, 1, none⟩) LX1.out.2).trans LX1.out.1, Nat.lt_of_lt_of_le LX1.out.2 HBW.out.size⟩
          have LR2 : Hid (W.cell? ⟨gr, gro + R * 3 + 2, none⟩ = some (.int .i64 rt) ∧ gr < W.heap.size) := ⟨(HBW.out.cell (p := ⟨gr, gro + R * 3 + 2, none⟩) LR2.out.2).trans LR2.out.1, Nat.lt_of_lt_of_le LR2.out.2 HBW.out.size⟩
          clear HBW S
          cases tb
          · have hno : Hid (¬ RtS p) := fun h => of_decide_eq_false HTB.out (by have := h R lR2; rw [HRT.out] at this; exact this)
            have HG := Lib.hid (And.intro S2.out.1.g S2.out.1.gz)
            have HB := Lib.hid S2.out.2.1
            clear LS0 LS1 LX1 LR2 S2 wm wn wn2 HZ HTB HRC HRT lR lR2 lK
            go_upto_region 22 with fail
            have H5 := Lib.hid (Blk.set (x := .slice none 0 0) (y := .slice none 0 0) HG.out.1)
            have O5 := Lib.hid (below_sets (x := .slice none 0 0) (y := .slice none 0 0) HB.out HGB.out.2.1)
            obtain ⟨_, c0, c1⟩ := HG.out.1
            obtain ⟨f0, f1⟩ := HG.out.2
            go_wp2_with fail
            clear c0 c1 f0 f1
            generalize (W.setCell ⟨gb, 0, none⟩ (.slice none 0 0)).setCell ⟨gb, 1, none⟩ (.slice none 0 0) = W5 at *
            have x0 := H5.out.2.1
            have x1 := H5.out.2.2
            (try simp only [Exit.inBlock, Exit.then])
            refine bodyPost_ret (by simp [results, Try.results12, x0, x1, go_sem]; rfl) rfl ?_
            exact ⟨O5.out, zeroPg, 5, rfl, zeroPg_at _, .inr (.inr (.inr (.inl ⟨rfl, HOK.out, hmp, ⟨hn6, hml⟩, hno.out, rfl⟩)))⟩
          · have LD : Hid (W.cell? ⟨db, 0, none⟩ = some (.slice pa c cc) ∧ db < W.heap.size) := ⟨S2.out.1.d.2.1, S2.out.1.d.1⟩
            have LO : Hid (W.ownsRow w.heap.size 3 1 (.slice pa c cc) c ((List.range c).map fun l => Value.int .i64 (duC p l))) := S2.out.1.c
            have LB : Hid (w.heap.size ≤ W.heap.size) := S2.out.2.1.size
            have LN : Hid (¬ (Value.slice pa c cc).ownBlock = some db) := fun e => ((S2.out.1.cn db e).2.2.1 rfl)
            have LF : Hid (W.frozen? ⟨db, 0, none⟩ = false) := S2.out.1.dz.1
            rename World => W2
            go_upto_region 23 with fail
            refine wp_region_each (fun L A W => ∃ (v : Nat → Value), A = ⟨#[_, _, _, _, _, _, _, _, _, _, _, _, _, _, _, _, _, _, _, _, _, _, _, _, _, _, _, _, _, _, _, _, _, _, _, _, _, _, _, _, _, _, _, _, _, _, _, _, _, _, _, _, _, _, _, _, _, _, _, _, _, _, _, _, _, _, _, _, _, _, _, _, _, _, _, _, _, _, _, _, _, _, v 82, v 83, v 84, v 85, v 86, v 87, v 88, v 89, v 90, v 91, v 92, v 93, v 94, v 95, v 96, v 97, v 98, v 99, v 100, v 101, _, _, _, _, _, _, _, _, _, _, _, _, _, _, _, _, _, _, _, _, _, _, _, _, _, _, _, _, _, _, _, _, _, _, _, _, _, _, _, _, _, _, _, _, _, _, _, _], []⟩ ∧ RdAR db xb gr gro R c cc p.m p.rc (shN p) g4 g5 pc qc w.heap.size pa (duC p) rt sg y z W2 L v W) (by kernel_rfl) (by kernel_rfl) ⟨fun jz => if jz = 82 then u82 else if jz = 83 then u83 else if jz = 84 then u84 else if jz = 85 then u85 else if jz = 86 then u86 else if jz = 87 then u87 else if jz = 88 then u88 else if jz = 89 then u89 else if jz = 90 then u90 else if jz = 91 then u91 else if jz = 92 then u92 else if jz = 93 then u93 else if jz = 94 then u94 else if jz = 95 then u95 else if jz = 96 then u96 else if jz = 97 then u97 else if jz = 98 then u98 else if jz = 99 then u99 else if jz = 100 then u100 else if jz = 101 then u101 else undef, rfl, ⟨(fun _ => Below.drew (Below.refl _ _)), Had.none, Had.none, Had.none, Had.none, Had.none, Had.none, Had.none, Had.none, Had.none, Had.none, Had.none, Had.none, Had.none, Had.none, Had.none, Had.none, Had.none, Had.none, Had.none, Had.none, Had.none, Had.none, Had.none, Had.none, Had.none, Had.none, Had.none, Had.none, Had.none, Had.none, Had.none, Had.none, Had.none, Had.none, Had.none⟩⟩ (rs := [0, 1, 2, 3, 4, 5, 6, 7, 8, 9, 10, 11, 12, 13, 14, 15, 16, 17, 18, 19, 20]) (by kernel_rfl) ?_ ?_
            · refine EachOf.cons [] rfl (by kernel_rfl) ?_ ?_
              · rintro L A W ⟨v, rfl, hR⟩ hi hw K hK
                have hk : L 18 = false := hR.w18.not (hR.w1.not hi rfl) rfl
                go_simp
                refine hK.out _ _ ?_
                exact ⟨(fun jz => if jz = 82 then .pointer (some ⟨db, 0, none⟩) else v jz), rfl, ⟨(fun h => hR.st (upd_false h)), (fun _ => rfl), hR.f1.k rfl, hR.f2.k rfl, hR.f3.k rfl, hR.f4.k rfl, hR.f5.k rfl, hR.f6.k rfl, hR.f7.k rfl, hR.f8.k rfl, hR.f9.k rfl, hR.f10.k rfl, hR.f11.k rfl, hR.f12.k rfl, hR.f13.k rfl, hR.f14.k rfl, hR.f15.k rfl, hR.f16.k rfl, hR.x17.keepM rfl (fun h hx => h (upd_false hx)), hR.x18.keepM rfl (fun h hx => h (upd_false hx)), hR.f19.k rfl, hR.s1.k rfl, hR.w1.o rfl, hR.w4.o rfl, hR.w5.o rfl, hR.w7.o rfl, hR.w10.o rfl, hR.w11.o rfl, hR.w12.o rfl, hR.w13.o rfl, hR.w14.o rfl, hR.w15.o rfl, hR.w16.o rfl, hR.w17.o rfl, hR.w18.o rfl, hR.w20.o rfl⟩⟩
              refine EachOf.cons [0] rfl (by kernel_rfl) ?_ ?_
              · rintro L A W ⟨v, rfl, hR⟩ hi hw K hK
                have hk : L 18 = false := hR.w18.not hi rfl
                have e0 := hR.f0 (hw 0 (by simp))
                simp only [e0]
                clear e0
                have q0 := ((hR.st hk).cell (p := ⟨db, 0, none⟩) LD.out.2).trans LD.out.1
                go_simp
                refine hK.out _ _ ?_
                exact ⟨(fun jz => if jz = 82 then .pointer (some ⟨db, 0, none⟩) else if jz = 83 then .slice pa c cc else v jz), rfl, ⟨(fun h => hR.st (upd_false h)), (fun _ => rfl), (fun _ => rfl), hR.f2.k rfl, hR.f3.k rfl, hR.f4.k rfl, hR.f5.k rfl, hR.f6.k rfl, hR.f7.k rfl, hR.f8.k rfl, hR.f9.k rfl, hR.f10.k rfl, hR.f11.k rfl, hR.f12.k rfl, hR.f13.k rfl, hR.f14.k rfl, hR.f15.k rfl, hR.f16.k rfl, hR.x17.keepM rfl (fun h hx => h (upd_false hx)), hR.x18.keepM rfl (fun h hx => h (upd_false hx)), hR.f19.k rfl, hR.s1.k rfl, (fun _ j hj => upd_on (hw j hj)), hR.w4.o rfl, hR.w5.o rfl, hR.w7.o rfl, hR.w10.o rfl, hR.w11.o rfl, hR.w12.o rfl, hR.w13.o rfl, hR.w14.o rfl, hR.w15.o rfl, hR.w16.o rfl, hR.w17.o rfl, hR.w18.o rfl, hR.w20.o rfl⟩⟩
              refine EachOf.cons [] rfl (by kernel_rfl) ?_ ?_
              · rintro L A W ⟨v, rfl, hR⟩ hi hw K hK
                have hk : L 18 = false := hR.w18.not (hR.w17.not (hR.w16.not (hR.w15.not (hR.w5.not (hR.w4.not hi rfl) rfl) rfl) rfl) rfl) rfl
                go_simp
                refine hK.out _ _ ?_
                exact ⟨(fun jz => if jz = 84 then .slice (some ⟨g4, 0, none⟩) (shN p) (pc) else v jz), rfl, ⟨(fun h => hR.st (upd_false h)), hR.f0.k rfl, hR.f1.k rfl, (fun _ => rfl), hR.f3.k rfl, hR.f4.k rfl, hR.f5.k rfl, hR.f6.k rfl, hR.f7.k rfl, hR.f8.k rfl, hR.f9.k rfl, hR.f10.k rfl, hR.f11.k rfl, hR.f12.k rfl, hR.f13.k rfl, hR.f14.k rfl, hR.f15.k rfl, hR.f16.k rfl, hR.x17.keepM rfl (fun h hx => h (upd_false hx)), hR.x18.keepM rfl (fun h hx => h (upd_false hx)), hR.f19.k rfl, hR.s1.k rfl, hR.w1.o rfl, hR.w4.o rfl, hR.w5.o rfl, hR.w7.o rfl, hR.w10.o rfl, hR.w11.o rfl, hR.w12.o rfl, hR.w13.o rfl, hR.w14.o rfl, hR.w15.o rfl, hR.w16.o rfl, hR.w17.o rfl, hR.w18.o rfl, hR.w20.o rfl⟩⟩
              refine EachOf.cons [] rfl (by kernel_rfl) ?_ ?_
              · rintro L A W ⟨v, rfl, hR⟩ hi hw K hK
                have hk : L 18 = false := hR.w18.not (hR.w17.not (hR.w16.not (hR.w15.not (hR.w5.not (hR.w4.not hi rfl) rfl) rfl) rfl) rfl) rfl
                go_simp
                refine hK.out _ _ ?_
                exact ⟨(fun jz => if jz = 85 then .int .i64 (c : Int) else v jz), rfl, ⟨(fun h => hR.st (upd_false h)), hR.f0.k rfl, hR.f1.k rfl, hR.f2.k rfl, (fun _ => rfl), hR.f4.k rfl, hR.f5.k rfl, hR.f6.k rfl, hR.f7.k rfl, hR.f8.k rfl, hR.f9.k rfl, hR.f10.k rfl, hR.f11.k rfl, hR.f12.k rfl, hR.f13.k rfl, hR.f14.k rfl, hR.f15.k rfl, hR.f16.k rfl, hR.x17.keepM rfl (fun h hx => h (upd_false hx)), hR.x18.keepM rfl (fun h hx => h (upd_false hx)), hR.f19.k rfl, hR.s1.k rfl, hR.w1.o rfl, hR.w4.o rfl, hR.w5.o rfl, hR.w7.o rfl, hR.w10.o rfl, hR.w11.o rfl, hR.w12.o rfl, hR.w13.o rfl, hR.w14.o rfl, hR.w15.o rfl, hR.w16.o rfl, hR.w17.o rfl, hR.w18.o rfl, hR.w20.o rfl⟩⟩
              refine EachOf.cons [2, 3] rfl (by kernel_rfl) ?_ ?_
              · rintro L A W ⟨v, rfl, hR⟩ hi hw K hK
                have hk : L 18 = false := hR.w18.not (hR.w17.not (hR.w16.not (hR.w15.not (hR.w5.not hi rfl) rfl) rfl) rfl) rfl
                have e2 := hR.f2 (hw 2 (by simp))
                have e3 := hR.f3 (hw 3 (by simp))
                simp only [e2, e3]
                clear e2 e3
                go_simp
                refine hK.out _ _ ?_
                exact ⟨(fun jz => if jz = 84 then .slice (some ⟨g4, 0, none⟩) (shN p) (pc) else if jz = 85 then .int .i64 (c : Int) else if jz = 86 then .pointer (some ⟨g4, c, none⟩) else v jz), rfl, ⟨(fun h => hR.st (upd_false h)), hR.f0.k rfl, hR.f1.k rfl, (fun _ => rfl), (fun _ => rfl), (fun _ => rfl), hR.f5.k rfl, hR.f6.k rfl, hR.f7.k rfl, hR.f8.k rfl, hR.f9.k rfl, hR.f10.k rfl, hR.f11.k rfl, hR.f12.k rfl, hR.f13.k rfl, hR.f14.k rfl, hR.f15.k rfl, hR.f16.k rfl, hR.x17.keepM rfl (fun h hx => h (upd_false hx)), hR.x18.keepM rfl (fun h hx => h (upd_false hx)), hR.f19.k rfl, hR.s1.k rfl, hR.w1.o rfl, (fun _ j hj => upd_on (hw j hj)), hR.w5.o rfl, hR.w7.o rfl, hR.w10.o rfl, hR.w11.o rfl, hR.w12.o rfl, hR.w13.o rfl, hR.w14.o rfl, hR.w15.o rfl, hR.w16.o rfl, hR.w17.o rfl, hR.w18.o rfl, hR.w20.o rfl⟩⟩
              refine EachOf.cons [4] rfl (by kernel_rfl) ?_ ?_
              · rintro L A W ⟨v, rfl, hR⟩ hi hw K hK
                have hk : L 18 = false := hR.w18.not (hR.w17.not (hR.w16.not (hR.w15.not hi rfl) rfl) rfl) rfl
                have e4 := hR.f4 (hw 4 (by simp))
                simp only [e4]
                clear e4
                have q0 := ((hR.st hk).cell (p := ⟨g4, c, none⟩) LS0.out.2).trans LS0.out.1
                go_simp
                refine hK.out _ _ ?_
                exact ⟨(fun jz => if jz = 86 then .pointer (some ⟨g4, c, none⟩) else if jz = 87 then .int .i64 sg else v jz), rfl, ⟨(fun h => hR.st (upd_false h)), hR.f0.k rfl, hR.f1.k rfl, hR.f2.k rfl, hR.f3.k rfl, (fun _ => rfl), (fun _ => rfl), hR.f6.k rfl, hR.f7.k rfl, hR.f8.k rfl, hR.f9.k rfl, hR.f10.k rfl, hR.f11.k rfl, hR.f12.k rfl, hR.f13.k rfl, hR.f14.k rfl, hR.f15.k rfl, hR.f16.k rfl, hR.x17.keepM rfl (fun h hx => h (upd_false hx)), hR.x18.keepM rfl (fun h hx => h (upd_false hx)), hR.f19.k rfl, hR.s1.k rfl, hR.w1.o rfl, hR.w4.o rfl, (fun _ j hj => upd_on (hw j hj)), hR.w7.o rfl, hR.w10.o rfl, hR.w11.o rfl, hR.w12.o rfl, hR.w13.o rfl, hR.w14.o rfl, hR.w15.o rfl, hR.w16.o rfl, hR.w17.o rfl, hR.w18.o rfl, hR.w20.o rfl⟩⟩
              refine EachOf.cons [] rfl (by kernel_rfl) ?_ ?_
              · rintro L A W ⟨v, rfl, hR⟩ hi hw K hK
                have hk : L 18 = false := hR.w18.not (hR.w17.not (hR.w16.not (hR.w15.not (hR.w14.not (hR.w13.not (hR.w12.not (hR.w7.not hi rfl) rfl) rfl) rfl) rfl) rfl) rfl) rfl
                go_simp
                refine hK.out _ _ ?_
                exact ⟨(fun jz => if jz = 88 then .pointer (some ⟨xb, 1, none⟩) else v jz), rfl, ⟨(fun h => hR.st (upd_false h)), hR.f0.k rfl, hR.f1.k rfl, hR.f2.k rfl, hR.f3.k rfl, hR.f4.k rfl, hR.f5.k rfl, (fun _ => rfl), hR.f7.k rfl, hR.f8.k rfl, hR.f9.k rfl, hR.f10.k rfl, hR.f11.k rfl, hR.f12.k rfl, hR.f13.k rfl, hR.f14.k rfl, hR.f15.k rfl, hR.f16.k rfl, hR.x17.keepM rfl (fun h hx => h (upd_false hx)), hR.x18.keepM rfl (fun h hx => h (upd_false hx)), hR.f19.k rfl, hR.s1.k rfl, hR.w1.o rfl, hR.w4.o rfl, hR.w5.o rfl, hR.w7.o rfl, hR.w10.o rfl, hR.w11.o rfl, hR.w12.o rfl, hR.w13.o rfl, hR.w14.o rfl, hR.w15.o rfl, hR.w16.o rfl, hR.w17.o rfl, hR.w18.o rfl, hR.w20.o rfl⟩⟩
              refine EachOf.cons [6] rfl (by kernel_rfl) ?_ ?_
              · rintro L A W ⟨v, rfl, hR⟩ hi hw K hK
                have hk : L 18 = false := hR.w18.not (hR.w17.not (hR.w16.not (hR.w15.not (hR.w14.not (hR.w13.not (hR.w12.not hi rfl) rfl) rfl) rfl) rfl) rfl) rfl
                have e6 := hR.f6 (hw 6 (by simp))
                simp only [e6]
                clear e6
                have q0 := ((hR.st hk).cell (p := ⟨xb, 1, none⟩) LX1.out.2).trans LX1.out.1
                go_simp
                refine hK.out _ _ ?_
                exact ⟨(fun jz => if jz = 88 then .pointer (some ⟨xb, 1, none⟩) else if jz = 89 then .slice (some ⟨gr, gro, none⟩) (p.m) (p.rc) else v jz), rfl, ⟨(fun h => hR.st (upd_false h)), hR.f0.k rfl, hR.f1.k rfl, hR.f2.k rfl, hR.f3.k rfl, hR.f4.k rfl, hR.f5.k rfl, (fun _ => rfl), (fun _ => rfl), hR.f8.k rfl, hR.f9.k rfl, hR.f10.k rfl, hR.f11.k rfl, hR.f12.k rfl, hR.f13.k rfl, hR.f14.k rfl, hR.f15.k rfl, hR.f16.k rfl, hR.x17.keepM rfl (fun h hx => h (upd_false hx)), hR.x18.keepM rfl (fun h hx => h (upd_false hx)), hR.f19.k rfl, hR.s1.k rfl, hR.w1.o rfl, hR.w4.o rfl, hR.w5.o rfl, (fun _ j hj => upd_on (hw j hj)), hR.w10.o rfl, hR.w11.o rfl, hR.w12.o rfl, hR.w13.o rfl, hR.w14.o rfl, hR.w15.o rfl, hR.w16.o rfl, hR.w17.o rfl, hR.w18.o rfl, hR.w20.o rfl⟩⟩
              refine EachOf.cons [] rfl (by kernel_rfl) ?_ ?_
              · rintro L A W ⟨v, rfl, hR⟩ hi hw K hK
                have hk : L 18 = false := hR.w18.not (hR.w17.not (hR.w16.not (hR.w15.not (hR.w14.not (hR.w13.not (hR.w12.not (hR.w11.not (hR.w10.not hi rfl) rfl) rfl) rfl) rfl) rfl) rfl) rfl) rfl
                go_simp
                refine hK.out _ _ ?_
                exact ⟨(fun jz => if jz = 90 then .slice (some ⟨g5, 0, none⟩) (shN p) (qc) else v jz), rfl, ⟨(fun h => hR.st (upd_false h)), hR.f0.k rfl, hR.f1.k rfl, hR.f2.k rfl, hR.f3.k rfl, hR.f4.k rfl, hR.f5.k rfl, hR.f6.k rfl, hR.f7.k rfl, (fun _ => rfl), hR.f9.k rfl, hR.f10.k rfl, hR.f11.k rfl, hR.f12.k rfl, hR.f13.k rfl, hR.f14.k rfl, hR.f15.k rfl, hR.f16.k rfl, hR.x17.keepM rfl (fun h hx => h (upd_false hx)), hR.x18.keepM rfl (fun h hx => h (upd_false hx)), hR.f19.k rfl, hR.s1.k rfl, hR.w1.o rfl, hR.w4.o rfl, hR.w5.o rfl, hR.w7.o rfl, hR.w10.o rfl, hR.w11.o rfl, hR.w12.o rfl, hR.w13.o rfl, hR.w14.o rfl, hR.w15.o rfl, hR.w16.o rfl, hR.w17.o rfl, hR.w18.o rfl, hR.w20.o rfl⟩⟩
              refine EachOf.cons [] rfl (by kernel_rfl) ?_ ?_
              · rintro L A W ⟨v, rfl, hR⟩ hi hw K hK
                have hk : L 18 = false := hR.w18.not (hR.w17.not (hR.w16.not (hR.w15.not (hR.w14.not (hR.w13.not (hR.w12.not (hR.w11.not (hR.w10.not hi rfl) rfl) rfl) rfl) rfl) rfl) rfl) rfl) rfl
                go_simp
                refine hK.out _ _ ?_
                exact ⟨(fun jz => if jz = 91 then .int .i64 (c : Int) else v jz), rfl, ⟨(fun h => hR.st (upd_false h)), hR.f0.k rfl, hR.f1.k rfl, hR.f2.k rfl, hR.f3.k rfl, hR.f4.k rfl, hR.f5.k rfl, hR.f6.k rfl, hR.f7.k rfl, hR.f8.k rfl, (fun _ => rfl), hR.f10.k rfl, hR.f11.k rfl, hR.f12.k rfl, hR.f13.k rfl, hR.f14.k rfl, hR.f15.k rfl, hR.f16.k rfl, hR.x17.keepM rfl (fun h hx => h (upd_false hx)), hR.x18.keepM rfl (fun h hx => h (upd_false hx)), hR.f19.k rfl, hR.s1.k rfl, hR.w1.o rfl, hR.w4.o rfl, hR.w5.o rfl, hR.w7.o rfl, hR.w10.o rfl, hR.w11.o rfl, hR.w12.o rfl, hR.w13.o rfl, hR.w14.o rfl, hR.w15.o rfl, hR.w16.o rfl, hR.w17.o rfl, hR.w18.o rfl, hR.w20.o rfl⟩⟩
              refine EachOf.cons [8, 9] rfl (by kernel_rfl) ?_ ?_
              · rintro L A W ⟨v, rfl, hR⟩ hi hw K hK
                have hk : L 18 = false := hR.w18.not (hR.w17.not (hR.w16.not (hR.w15.not (hR.w14.not (hR.w13.not (hR.w12.not (hR.w11.not hi rfl) rfl) rfl) rfl) rfl) rfl) rfl) rfl
                have e8 := hR.f8 (hw 8 (by simp))
                have e9 := hR.f9 (hw 9 (by simp))
                simp only [e8, e9]
                clear e8 e9
                go_simp
                refine hK.out _ _ ?_
                exact ⟨(fun jz => if jz = 90 then .slice (some ⟨g5, 0, none⟩) (shN p) (qc) else if jz = 91 then .int .i64 (c : Int) else if jz = 92 then .pointer (some ⟨g5, c, none⟩) else v jz), rfl, ⟨(fun h => hR.st (upd_false h)), hR.f0.k rfl, hR.f1.k rfl, hR.f2.k rfl, hR.f3.k rfl, hR.f4.k rfl, hR.f5.k rfl, hR.f6.k rfl, hR.f7.k rfl, (fun _ => rfl), (fun _ => rfl), (fun _ => rfl), hR.f11.k rfl, hR.f12.k rfl, hR.f13.k rfl, hR.f14.k rfl, hR.f15.k rfl, hR.f16.k rfl, hR.x17.keepM rfl (fun h hx => h (upd_false hx)), hR.x18.keepM rfl (fun h hx => h (upd_false hx)), hR.f19.k rfl, hR.s1.k rfl, hR.w1.o rfl, hR.w4.o rfl, hR.w5.o rfl, hR.w7.o rfl, (fun _ j hj => upd_on (hw j hj)), hR.w11.o rfl, hR.w12.o rfl, hR.w13.o rfl, hR.w14.o rfl, hR.w15.o rfl, hR.w16.o rfl, hR.w17.o rfl, hR.w18.o rfl, hR.w20.o rfl⟩⟩
              refine EachOf.cons [10] rfl (by kernel_rfl) ?_ ?_
              · rintro L A W ⟨v, rfl, hR⟩ hi hw K hK
                have hk : L 18 = false := hR.w18.not (hR.w17.not (hR.w16.not (hR.w15.not (hR.w14.not (hR.w13.not (hR.w12.not hi rfl) rfl) rfl) rfl) rfl) rfl) rfl
                have e10 := hR.f10 (hw 10 (by simp))
                simp only [e10]
                clear e10
                have q0 := ((hR.st hk).cell (p := ⟨g5, c, none⟩) LS1.out.2).trans LS1.out.1
                go_simp
                refine hK.out _ _ ?_
                exact ⟨(fun jz => if jz = 92 then .pointer (some ⟨g5, c, none⟩) else if jz = 93 then .int .i64 (R : Int) else v jz), rfl, ⟨(fun h => hR.st (upd_false h)), hR.f0.k rfl, hR.f1.k rfl, hR.f2.k rfl, hR.f3.k rfl, hR.f4.k rfl, hR.f5.k rfl, hR.f6.k rfl, hR.f7.k rfl, hR.f8.k rfl, hR.f9.k rfl, (fun _ => rfl), (fun _ => rfl), hR.f12.k rfl, hR.f13.k rfl, hR.f14.k rfl, hR.f15.k rfl, hR.f16.k rfl, hR.x17.keepM rfl (fun h hx => h (upd_false hx)), hR.x18.keepM rfl (fun h hx => h (upd_false hx)), hR.f19.k rfl, hR.s1.k rfl, hR.w1.o rfl, hR.w4.o rfl, hR.w5.o rfl, hR.w7.o rfl, hR.w10.o rfl, (fun _ j hj => upd_on (hw j hj)), hR.w12.o rfl, hR.w13.o rfl, hR.w14.o rfl, hR.w15.o rfl, hR.w16.o rfl, hR.w17.o rfl, hR.w18.o rfl, hR.w20.o rfl⟩⟩
              refine EachOf.cons [7, 11] rfl (by kernel_rfl) ?_ ?_
              · rintro L A W ⟨v, rfl, hR⟩ hi hw K hK
                have hk : L 18 = false := hR.w18.not (hR.w17.not (hR.w16.not (hR.w15.not (hR.w14.not (hR.w13.not hi rfl) rfl) rfl) rfl) rfl) rfl
                have e7 := hR.f7 (hw 7 (by simp))
                have e11 := hR.f11 (hw 11 (by simp))
                simp only [e7, e11]
                clear e7 e11
                go_simp
                refine hK.out _ _ ?_
                exact ⟨(fun jz => if jz = 89 then .slice (some ⟨gr, gro, none⟩) (p.m) (p.rc) else if jz = 93 then .int .i64 (R : Int) else if jz = 94 then .pointer (some ⟨gr, gro + R * 3, none⟩) else v jz), rfl, ⟨(fun h => hR.st (upd_false h)), hR.f0.k rfl, hR.f1.k rfl, hR.f2.k rfl, hR.f3.k rfl, hR.f4.k rfl, hR.f5.k rfl, hR.f6.k rfl, (fun _ => rfl), hR.f8.k rfl, hR.f9.k rfl, hR.f10.k rfl, (fun _ => rfl), (fun _ => rfl), hR.f13.k rfl, hR.f14.k rfl, hR.f15.k rfl, hR.f16.k rfl, hR.x17.keepM rfl (fun h hx => h (upd_false hx)), hR.x18.keepM rfl (fun h hx => h (upd_false hx)), hR.f19.k rfl, hR.s1.k rfl, hR.w1.o rfl, hR.w4.o rfl, hR.w5.o rfl, hR.w7.o rfl, hR.w10.o rfl, hR.w11.o rfl, (fun _ j hj => upd_on (hw j hj)), hR.w13.o rfl, hR.w14.o rfl, hR.w15.o rfl, hR.w16.o rfl, hR.w17.o rfl, hR.w18.o rfl, hR.w20.o rfl⟩⟩
              refine EachOf.cons [12] rfl (by kernel_rfl) ?_ ?_
              · rintro L A W ⟨v, rfl, hR⟩ hi hw K hK
                have hk : L 18 = false := hR.w18.not (hR.w17.not (hR.w16.not (hR.w15.not (hR.w14.not hi rfl) rfl) rfl) rfl) rfl
                have e12 := hR.f12 (hw 12 (by simp))
                simp only [e12]
                clear e12
                go_simp
                refine hK.out _ _ ?_
                exact ⟨(fun jz => if jz = 94 then .pointer (some ⟨gr, gro + R * 3, none⟩) else if jz = 95 then .pointer (some ⟨gr, gro + R * 3 + 2, none⟩) else v jz), rfl, ⟨(fun h => hR.st (upd_false h)), hR.f0.k rfl, hR.f1.k rfl, hR.f2.k rfl, hR.f3.k rfl, hR.f4.k rfl, hR.f5.k rfl, hR.f6.k rfl, hR.f7.k rfl, hR.f8.k rfl, hR.f9.k rfl, hR.f10.k rfl, hR.f11.k rfl, (fun _ => rfl), (fun _ => rfl), hR.f14.k rfl, hR.f15.k rfl, hR.f16.k rfl, hR.x17.keepM rfl (fun h hx => h (upd_false hx)), hR.x18.keepM rfl (fun h hx => h (upd_false hx)), hR.f19.k rfl, hR.s1.k rfl, hR.w1.o rfl, hR.w4.o rfl, hR.w5.o rfl, hR.w7.o rfl, hR.w10.o rfl, hR.w11.o rfl, hR.w12.o rfl, (fun _ j hj => upd_on (hw j hj)), hR.w14.o rfl, hR.w15.o rfl, hR.w16.o rfl, hR.w17.o rfl, hR.w18.o rfl, hR.w20.o rfl⟩⟩
              refine EachOf.cons [13] rfl (by kernel_rfl) ?_ ?_
              · rintro L A W ⟨v, rfl, hR⟩ hi hw K hK
                have hk : L 18 = false := hR.w18.not (hR.w17.not (hR.w16.not (hR.w15.not hi rfl) rfl) rfl) rfl
                have e13 := hR.f13 (hw 13 (by simp))
                simp only [e13]
                clear e13
                have q0 := ((hR.st hk).cell (p := ⟨gr, gro + R * 3 + 2, none⟩) LR2.out.2).trans LR2.out.1
                go_simp
                refine hK.out _ _ ?_
                exact ⟨(fun jz => if jz = 95 then .pointer (some ⟨gr, gro + R * 3 + 2, none⟩) else if jz = 96 then .int .i64 rt else v jz), rfl, ⟨(fun h => hR.st (upd_false h)), hR.f0.k rfl, hR.f1.k rfl, hR.f2.k rfl, hR.f3.k rfl, hR.f4.k rfl, hR.f5.k rfl, hR.f6.k rfl, hR.f7.k rfl, hR.f8.k rfl, hR.f9.k rfl, hR.f10.k rfl, hR.f11.k rfl, hR.f12.k rfl, (fun _ => rfl), (fun _ => rfl), hR.f15.k rfl, hR.f16.k rfl, hR.x17.keepM rfl (fun h hx => h (upd_false hx)), hR.x18.keepM rfl (fun h hx => h (upd_false hx)), hR.f19.k rfl, hR.s1.k rfl, hR.w1.o rfl, hR.w4.o rfl, hR.w5.o rfl, hR.w7.o rfl, hR.w10.o rfl, hR.w11.o rfl, hR.w12.o rfl, hR.w13.o rfl, (fun _ j hj => upd_on (hw j hj)), hR.w15.o rfl, hR.w16.o rfl, hR.w17.o rfl, hR.w18.o rfl, hR.w20.o rfl⟩⟩
              refine EachOf.cons [5, 14] rfl (by kernel_rfl) ?_ ?_
              · rintro L A W ⟨v, rfl, hR⟩ hi hw K hK
                have hk : L 18 = false := hR.w18.not (hR.w17.not (hR.w16.not hi rfl) rfl) rfl
                have e5 := hR.f5 (hw 5 (by simp))
                have e14 := hR.f14 (hw 14 (by simp))
                simp only [e5, e14]
                clear e5 e14
                go_simp
                refine hK.out _ _ ?_
                exact ⟨(fun jz => if jz = 87 then .int .i64 sg else if jz = 96 then .int .i64 rt else if jz = 97 then .int .i64 y else v jz), rfl, ⟨(fun h => hR.st (upd_false h)), hR.f0.k rfl, hR.f1.k rfl, hR.f2.k rfl, hR.f3.k rfl, hR.f4.k rfl, (fun _ => rfl), hR.f6.k rfl, hR.f7.k rfl, hR.f8.k rfl, hR.f9.k rfl, hR.f10.k rfl, hR.f11.k rfl, hR.f12.k rfl, hR.f13.k rfl, (fun _ => rfl), (fun _ => rfl), hR.f16.k rfl, hR.x17.keepM rfl (fun h hx => h (upd_false hx)), hR.x18.keepM rfl (fun h hx => h (upd_false hx)), hR.f19.k rfl, hR.s1.k rfl, hR.w1.o rfl, hR.w4.o rfl, hR.w5.o rfl, hR.w7.o rfl, hR.w10.o rfl, hR.w11.o rfl, hR.w12.o rfl, hR.w13.o rfl, hR.w14.o rfl, (fun _ j hj => upd_on (hw j hj)), hR.w16.o rfl, hR.w17.o rfl, hR.w18.o rfl, hR.w20.o rfl⟩⟩
              refine EachOf.cons [15] rfl (by kernel_rfl) ?_ ?_
              · rintro L A W ⟨v, rfl, hR⟩ hi hw K hK
                have hk : L 18 = false := hR.w18.not (hR.w17.not hi rfl) rfl
                have e15 := hR.f15 (hw 15 (by simp))
                simp only [e15]
                clear e15
                go_simp
                refine hK.out _ _ ?_
                exact ⟨(fun jz => if jz = 97 then .int .i64 y else if jz = 98 then .int .i64 z else v jz), rfl, ⟨(fun h => hR.st (upd_false h)), hR.f0.k rfl, hR.f1.k rfl, hR.f2.k rfl, hR.f3.k rfl, hR.f4.k rfl, hR.f5.k rfl, hR.f6.k rfl, hR.f7.k rfl, hR.f8.k rfl, hR.f9.k rfl, hR.f10.k rfl, hR.f11.k rfl, hR.f12.k rfl, hR.f13.k rfl, hR.f14.k rfl, (fun _ => rfl), (fun _ => rfl), hR.x17.keepM rfl (fun h hx => h (upd_false hx)), hR.x18.keepM rfl (fun h hx => h (upd_false hx)), hR.f19.k rfl, hR.s1.k rfl, hR.w1.o rfl, hR.w4.o rfl, hR.w5.o rfl, hR.w7.o rfl, hR.w10.o rfl, hR.w11.o rfl, hR.w12.o rfl, hR.w13.o rfl, hR.w14.o rfl, hR.w15.o rfl, (fun _ j hj => upd_on (hw j hj)), hR.w17.o rfl, hR.w18.o rfl, hR.w20.o rfl⟩⟩
              refine EachOf.cons [16] rfl (by kernel_rfl) ?_ ?_
              · rintro L A W ⟨v, rfl, hR⟩ hi hw K hK
                have hk : L 18 = false := hR.w18.not hi rfl
                have hk20 : L 20 = false := hR.w20.not hi rfl
                have e16 := hR.f16 (hw 16 (by simp))
                simp only [e16]
                clear e16
                have hb : Below W.heap.size W (W.alloc _) := (Below.refl _ _).alloc (Nat.le_refl _) (Obj.cells #[.int .i64 z] 3)
                go_simp
                refine hK.out _ _ ?_
                exact ⟨(fun jz => if jz = 98 then .int .i64 z else if jz = 99 then .slice (some ⟨W.heap.size, 0, none⟩) 1 1 else v jz), rfl, ⟨(fun _ => below_on (hR.st hk) hb), hR.f0.k rfl, hR.f1.k rfl, hR.f2.k rfl, hR.f3.k rfl, hR.f4.k rfl, hR.f5.k rfl, hR.f6.k rfl, hR.f7.k rfl, hR.f8.k rfl, hR.f9.k rfl, hR.f10.k rfl, hR.f11.k rfl, hR.f12.k rfl, hR.f13.k rfl, hR.f14.k rfl, hR.f15.k rfl, (fun _ => rfl), (fun _ _ => ⟨W.heap.size, rfl, SlR.new _ _ _⟩), (fun h => absurd (upd_back h rfl) (by simp [hk])), hR.f19.k rfl, (fun h => absurd (upd_back h rfl) (by simp [hk20])), hR.w1.o rfl, hR.w4.o rfl, hR.w5.o rfl, hR.w7.o rfl, hR.w10.o rfl, hR.w11.o rfl, hR.w12.o rfl, hR.w13.o rfl, hR.w14.o rfl, hR.w15.o rfl, hR.w16.o rfl, (fun _ j hj => upd_on (hw j hj)), hR.w18.o rfl, hR.w20.o rfl⟩⟩
              refine EachOf.cons [1, 17] rfl (by kernel_rfl) ?_ ?_
              · rintro L A W ⟨v, rfl, hR⟩ hi hw K hK
                have hk : L 18 = false := hi
                have hk20 : L 20 = false := hR.w20.not hi rfl
                have e1 := hR.f1 (hw 1 (by simp))
                simp only [e1]
                clear e1
                obtain ⟨B17, e17, hB17⟩ := hR.x17 (hw 17 (by simp)) hk
                simp only [e17]
                have hb := hR.st hi
                have ho := own_only LO.out (Only.of_below (S := fun _ => False) hb) (fun _ _ q => q)
                simp only [List.getElem_toArray, List.getElem_cons_succ, List.getElem_cons_zero]
                rw [if_pos (show Region.wanted _ _ = true by rfl)]
                refine wp_append_lies W _ _ 22 (by rfl) w.heap.size 3 i0 (.int .i64 0) 1 8 Try.underlying22 HI.out.1 HI.out.2.1 HI.out.2.2.1 HI.out.2.2.2 rfl (by decide) (.slice pa c cc) c _ (by rfl) ho ⟨B17, 0, none⟩ 1 1 [.int .i64 z] (by rfl) rfl (SlR.news hB17) (by intro u hu; simp at hu; subst hu; rfl) (by omega) (by unfold maxLen; omega) (by omega) (Nat.le_trans LB.out hb.size) _ rfl ?_
                intro g cap w1 hown hgrow hat hlt
                refine hK.out _ _ ?_
                exact ⟨(fun jz => if jz = 83 then .slice pa c cc else if jz = 99 then .slice (some ⟨B17, 0, none⟩) 1 1 else if jz = 100 then .slice (some ⟨g, 0, none⟩) (c + 1) cap else v jz), rfl, ⟨(fun h => by simp [upd_self] at h), hR.f0.k rfl, (fun _ => rfl), hR.f2.k rfl, hR.f3.k rfl, hR.f4.k rfl, hR.f5.k rfl, hR.f6.k rfl, hR.f7.k rfl, hR.f8.k rfl, hR.f9.k rfl, hR.f10.k rfl, hR.f11.k rfl, hR.f12.k rfl, hR.f13.k rfl, hR.f14.k rfl, hR.f15.k rfl, hR.f16.k rfl, (fun _ h => by simp [upd_self] at h), (fun _ _ => AppW.make hb hgrow hown hat hlt), hR.f19.k rfl, (fun h => absurd (upd_back h rfl) (by simp [hk20])), hR.w1.o rfl, hR.w4.o rfl, hR.w5.o rfl, hR.w7.o rfl, hR.w10.o rfl, hR.w11.o rfl, hR.w12.o rfl, hR.w13.o rfl, hR.w14.o rfl, hR.w15.o rfl, hR.w16.o rfl, hR.w17.o rfl, (fun _ j hj => upd_on (hw j hj)), hR.w20.o rfl⟩⟩
              refine EachOf.cons [] rfl (by kernel_rfl) ?_ ?_
              · rintro L A W ⟨v, rfl, hR⟩ hi hw K hK
                go_simp
                refine hK.out _ _ ?_
                exact ⟨(fun jz => if jz = 101 then .pointer (some ⟨db, 0, none⟩) else v jz), rfl, ⟨(fun h => hR.st (upd_false h)), hR.f0.k rfl, hR.f1.k rfl, hR.f2.k rfl, hR.f3.k rfl, hR.f4.k rfl, hR.f5.k rfl, hR.f6.k rfl, hR.f7.k rfl, hR.f8.k rfl, hR.f9.k rfl, hR.f10.k rfl, hR.f11.k rfl, hR.f12.k rfl, hR.f13.k rfl, hR.f14.k rfl, hR.f15.k rfl, hR.f16.k rfl, hR.x17.keepM rfl (fun h hx => h (upd_false hx)), hR.x18.keepM rfl (fun h hx => h (upd_false hx)), (fun _ => rfl), hR.s1.k rfl, hR.w1.o rfl, hR.w4.o rfl, hR.w5.o rfl, hR.w7.o rfl, hR.w10.o rfl, hR.w11.o rfl, hR.w12.o rfl, hR.w13.o rfl, hR.w14.o rfl, hR.w15.o rfl, hR.w16.o rfl, hR.w17.o rfl, hR.w18.o rfl, hR.w20.o rfl⟩⟩
              refine EachOf.cons [0, 1, 2, 3, 4, 5, 6, 7, 8, 9, 10, 11, 12, 13, 14, 15, 16, 17, 18, 19] rfl (by kernel_rfl) ?_ ?_
              · rintro L A W ⟨v, rfl, hR⟩ hi hw K hK
                have e19 := hR.f19 (hw 19 (by simp))
                simp only [e19]
                clear e19
                have hA := hR.x18 (hw 18 (by simp)) hi
                obtain ⟨gq, capq, hzz, hcase, hl⟩ := hA.form
                rw [hzz] at hA
                simp only [hzz]
                have qf1 := (hA.only.cell (p := ⟨db, 0, none⟩) LD.out.2 LN.out).trans LD.out.1
                have qf2 := (hA.only.frozen (p := ⟨db, 0, none⟩) LD.out.2 LN.out).trans LF.out
                go_simp
                refine hK.out _ _ ?_
                exact ⟨(fun jz => if jz = 101 then .pointer (some ⟨db, 0, none⟩) else if jz = 100 then .slice (some ⟨gq, 0, none⟩) (c + 1) capq else v jz), rfl, ⟨(fun h => absurd (hw 18 (by simp)) (by simp [upd_false h])), hR.f0.k rfl, hR.f1.k rfl, hR.f2.k rfl, hR.f3.k rfl, hR.f4.k rfl, hR.f5.k rfl, hR.f6.k rfl, hR.f7.k rfl, hR.f8.k rfl, hR.f9.k rfl, hR.f10.k rfl, hR.f11.k rfl, hR.f12.k rfl, hR.f13.k rfl, hR.f14.k rfl, hR.f15.k rfl, hR.f16.k rfl, (fun _ h => absurd (hw 18 (by simp)) (by simp [upd_false h])), (fun _ h => by simp [upd_self] at h), (fun _ => rfl), (fun _ => ⟨W, gq, capq, hA, rfl⟩), hR.w1.o rfl, hR.w4.o rfl, hR.w5.o rfl, hR.w7.o rfl, hR.w10.o rfl, hR.w11.o rfl, hR.w12.o rfl, hR.w13.o rfl, hR.w14.o rfl, hR.w15.o rfl, hR.w16.o rfl, hR.w17.o rfl, hR.w18.o rfl, (fun _ j hj => upd_on (hw j hj))⟩⟩
              exact EachOf.nil
            rintro L A W ⟨v, rfl, hR⟩ hL
            obtain ⟨W5, gq, cap, hA, rfl⟩ := hR.s1 (hL 20 (by simp))
            have hqq : (Value.slice pa c cc).ownBlock = some gq ∨ W2.heap.size ≤ gq := by
              obtain ⟨g2, cap2, h1, h2, h3⟩ := hA.form
              have e4 : gq = g2 := by injection h1 with e1 e2 e3; injection e1 with e1; injection e1
              rw [e4]; exact h2
            have T : Hid (RDu p w.heap.size (W5.setCell ⟨db, 0, none⟩ (.slice (some ⟨gq, 0, none⟩) (c + 1) cap)) xb gb db (.slice (some ⟨g4, 0, none⟩) (shN p) pc) (.slice (some ⟨g5, 0, none⟩) (shN p) qc) (c + 1) 0 (.slice (some ⟨gq, 0, none⟩) (c + 1) cap) (.slice none 0 0) (fun _ => none) (fun _ => 0) ∧ Below w.heap.size w (W5.setCell ⟨db, 0, none⟩ (.slice (some ⟨gq, 0, none⟩) (c + 1) cap)) ∧ ∀ k, k < c + 1 → -1048576 ≤ p.Rt (shR p k) ∧ p.Rt (shR p k) ≤ 1048576) :=
              ⟨S2.out.1.pushC HZ.out hA.only hA.own hqq, (S2.out.2.1.trans (hA.only.below S2.out.2.1.size (fun q hq => (LO.out.lt q hq).1))).setCell (p := ⟨db, 0, none⟩) S2.out.1.lo.2.2 _, fun k hk => by
                by_cases e : k = c
                · rw [e, HRC.out, HRT.out]; exact of_decide_eq_true HTB.out
                · exact S2.out.2.2 k (by omega)⟩
            clear hqq hA hR hL LD LX1 LR2 LO LB LN LF S2 HZ LS0 LS1 wn wn2 wm lR lR2 lK HTB HRC HRT
            go_wp2_with fail
            rw [← er]
            go_roundg (shN p - (c + 1))
            case measure => omega
            case rel => exact ⟨c + 1, rfl, rfl, by omega, _, T⟩
        · have e : c = shN p := by omega
          subst e
          have hrt : RtS p := rts_all S.out.2.2
          have HRT := Lib.hid hrt
          have S1 : Hid (RDu p w.heap.size W1 xb gb db (.slice (some ⟨g4, 0, none⟩) (shN p) pc) (.slice (some ⟨g5, 0, none⟩) (shN p) qc) (shN p) 0 cv (.slice none 0 0) (fun _ => none) (fun _ => 0) ∧ Below w.heap.size w W1) := ⟨S.out.1, S.out.2.1⟩
          clear S hrt hlt hc
          go_wp2_with fail
          go_loopg [10] p.n (fun g s10 wx => ∃ j : Nat, s10 = .int .i64 j ∧ g = p.n - j ∧ j ≤ p.n ∧ ∃ rv P C, Hid (RDu p w.heap.size wx xb gb db (.slice (some ⟨g4, 0, none⟩) (shN p) pc) (.slice (some ⟨g5, 0, none⟩) (shN p) qc) (shN p) j cv rv P C ∧ Below w.heap.size w wx))
          case atStart => exact ⟨0, rfl, rfl, Nat.zero_le _, _, _, _, S1⟩
          case round =>
            clear S1
            obtain ⟨j, rfl, rfl, hj, rv, P, C, S⟩ := hrel
            rename World => Wm
            have q0 := S.out.1.x.2.1
            by_cases hjl : j < p.n
            · have wkj : IntKind.i64.wrap ((j : Int) + 1) = ((j + 1 : Nat) : Int) := by rw [IntWalk.i64_in _ (by omega)]; omega
              obtain ⟨cg0, co0, ec0, hcg0, hcr0⟩ := (HP.out.on S.out.2).cost (by omega)
              rw [ec0]
              rw [ec0] at q0
              have p1 := hcr0 j hjl
              obtain ⟨cst, hcst⟩ : ∃ x, p.C j = x := ⟨_, rfl⟩
              rw [hcst] at p1
              have HCST := Lib.hid hcst
              clear hcr0 hcst hcg0
              go_upto_region 28 with fail
              clear p1 q0
              rw [← ec0]
              clear ec0
              have hb6 : Below Wm.heap.size Wm (Wm.alloc (Obj.cells #[Value.slice none 0 0, .int .i64 1, .int .i64 cst] 50)) := (Below.refl _ _).alloc (Nat.le_refl _) _
              obtain ⟨wa, hwa⟩ : ∃ W, W = Wm.alloc (Obj.cells #[Value.slice none 0 0, .int .i64 1, .int .i64 cst] 50) := ⟨_, rfl⟩
              obtain ⟨tb, htb⟩ : ∃ x, x = Wm.heap.size := ⟨_, rfl⟩
              rw [← htb, ← hwa]
              have HTB : Hid (Wm.heap.size ≤ tb) := by show _ ≤ _; omega
              have S2 : Hid (Below Wm.heap.size Wm wa ∧ EBlk wa tb (.slice none 0 0) (.int .i64 1) (.int .i64 cst) ∧ wa.ownsRow w.heap.size 3 1 (.slice none 0 0) 0 ((List.range 0).map fun l => Value.int .i64 (duZ p j l)) ∧ ∀ q, (Value.slice none 0 0).ownBlock = some q → Wm.heap.size ≤ q ∧ q ≠ tb) :=
                ⟨by rw [hwa]; exact hb6, by
                  rw [hwa, htb]
                  exact ⟨by simp, by simp [go_sem], by simp [go_sem], by simp [go_sem], by simp [go_sem], by simp [go_sem], by simp [go_sem]⟩, ⟨by simp, .inl ⟨rfl, rfl⟩⟩, fun q hq => by cases hq⟩
              clear hb6 hwa htb
              go_wp2_with fail
              go_loopg [12] (shN p) (fun g s12 wx => ∃ k : Nat, s12 = .int .i64 k ∧ g = shN p - k ∧ k ≤ shN p ∧ ∃ pv, Hid (Below Wm.heap.size Wm wx ∧ EBlk wx tb pv (.int .i64 1) (.int .i64 cst) ∧ wx.ownsRow w.heap.size 3 1 pv k ((List.range k).map fun l => Value.int .i64 (duZ p j l)) ∧ ∀ q, pv.ownBlock = some q → Wm.heap.size ≤ q ∧ q ≠ tb))
              case atStart => exact ⟨0, rfl, rfl, Nat.zero_le _, _, S2⟩
              case round =>
                clear S2
                obtain ⟨c, rfl, rfl, hc2, pv, S3⟩ := hrel
                rename World => W1
                by_cases hlt : c < shN p
                · have wk : IntKind.i64.wrap ((c : Int) + 1) = ((c + 1 : Nat) : Int) := by rw [IntWalk.i64_in _ (by omega)]; omega
                  obtain ⟨pu, cu, hcv⟩ := own_form S3.out.2.2.1
                  subst hcv
                  have hgt := sgL_get hlt
                  have hs3 := S.out.1.go S3.out.1
                  have g0 := (hs3.s5.cellAt c (by omega)).trans hgt.2
                  have g1 := (hs3.s4.cellAt c (by omega)).trans hgt.1
                  have hRk := sh_at hlt
                  obtain ⟨gr, gro, er, hgr, hrow⟩ := (HP.out.on (below_on S.out.2 S3.out.1)).rows (by omega)
                  have hq3 := (hrow _ hRk.1).1
                  have hir := (HP.out.on (below_on S.out.2 S3.out.1)).coef _ hRk.1
                  have hzz := HOK.out.z _ hRk.1 j hjl
                  rw [HOK.out.l _ hRk.1] at hq3 hir
                  have e1 : duZ p j c = shS p c * p.Z (shR p c) j := rfl
                  obtain ⟨R, hR⟩ : ∃ x, shR p c = x := ⟨_, rfl⟩
                  obtain ⟨sg, hsg⟩ : ∃ x, shS p c = x := ⟨_, rfl⟩
                  rw [hR] at hRk hq3 hir hzz e1 g0
                  rw [hsg] at hRk e1 g1
                  obtain ⟨cg, co, ec, hcg, hcr⟩ := hir (by omega)
                  have hq4 := hcr j hjl
                  obtain ⟨zc, hzc⟩ : ∃ x, p.Z R j = x := ⟨_, rfl⟩
                  rw [hzc] at hzz hq4 e1
                  obtain ⟨z, hz⟩ : ∃ x, x = sg * zc := ⟨_, rfl⟩
                  have wm : IntKind.i64.wrap (sg * zc) = z := by rw [IntWalk.i64_in _ (by rcases hRk.2 with h | h <;> rw [h.1] <;> omega)]; exact hz.symm
                  have HZ : Hid (z = duZ p j c) := by show z = _; rw [e1, hz]
                  have lR : (R : Int) < (p.m : Int) := by omega
                  have lR2 := hRk.1
                  have lj : (j : Int) < (p.n : Int) := by omega
                  have HQ3 := Lib.hid (And.intro hq3 hgr)
                  have HQ4 := Lib.hid (And.intro hq4 hcg)
                  have HEC := Lib.hid ec
                  clear hrow hRk hzz hq3 hq4 hgr hcg hcr hir e1 hR hsg hzc hz ec
                  rw [er]
                  go_upto_region 31 with fail
                  obtain ⟨W2, hW2⟩ : ∃ W, W = W1 := ⟨_, rfl⟩
                  rw [← hW2]
                  have HB2 : Hid (Below W1.heap.size W1 W2) := by rw [hW2]; exact Below.refl _ _
                  have LS0 : Hid (W2.cell? ⟨g5, c, none⟩ = some (.int .i64 (R : Int)) ∧ g5 < W2.heap.size) := by rw [hW2]; exact ⟨g0, (hs3.s5.lt g5 rfl).2⟩
                  have LS1 : Hid (W2.cell? ⟨g4, c, none⟩ = some (.int .i64 sg) ∧ g4 < W2.heap.size) := by rw [hW2]; exact ⟨g1, (hs3.s4.lt g4 rfl).2⟩
                  have lK : (c : Int) < (shN p : Int) := by omega
                  clear hW2 g0 g1 hgt hs3
                  have hbm := below_on S3.out.1 HB2.out
                  have LD : Hid (W2.cell? ⟨tb, 0, none⟩ = some (.slice pu c cu) ∧ tb < W2.heap.size) := ⟨(S3.out.2.1.on HB2.out).c0, (S3.out.2.1.on HB2.out).hb⟩
                  have LX1 : Hid (W2.cell? ⟨xb, 1, none⟩ = some (.slice (some ⟨gr, gro, none⟩) p.m p.rc) ∧ xb < W2.heap.size) := ⟨by rw [← er]; exact (S.out.1.go hbm).x.2.2, (S.out.1.go hbm).x.1⟩
                  have LR2 : Hid (W2.cell? ⟨gr, gro + R * 3, none⟩ = some (.slice (some ⟨cg, co, none⟩) p.n (p.Kc R)) ∧ gr < W2.heap.size) := ⟨by rw [← HEC.out]; exact (HB2.out.cell (p := ⟨gr, gro + R * 3, none⟩) HQ3.out.2).trans HQ3.out.1, Nat.lt_of_lt_of_le HQ3.out.2 HB2.out.size⟩
                  have LZ : Hid (W2.cell? ⟨cg, co + j, none⟩ = some (.int .i64 zc) ∧ cg < W2.heap.size) := ⟨(HB2.out.cell (p := ⟨cg, co + j, none⟩) HQ4.out.2).trans HQ4.out.1, Nat.lt_of_lt_of_le HQ4.out.2 HB2.out.size⟩
                  have LO : Hid (W2.ownsRow w.heap.size 3 1 (.slice pu c cu) c ((List.range c).map fun l => Value.int .i64 (duZ p j l))) := own_only S3.out.2.2.1 (Only.of_below (S := fun _ => False) HB2.out) (fun _ _ q => q)
                  have LB : Hid (w.heap.size ≤ W2.heap.size) := Nat.le_trans S.out.2.size hbm.size
                  have LN : Hid (¬ (Value.slice pu c cu).ownBlock = some tb) := fun e => ((S3.out.2.2.2 tb e).2 rfl)
                  have LF : Hid (W2.frozen? ⟨tb, 0, none⟩ = false) := (S3.out.2.1.on HB2.out).f0
                  have S4 := Lib.hid (And.intro hbm (And.intro (S3.out.2.1.on HB2.out) S3.out.2.2.2))
                  clear S3 HQ3 HQ4 HB2 hbm
                  refine wp_region_each (fun L A W => ∃ (v : Nat → Value), A = ⟨#[_, _, _, _, _, _, _, _, _, _, _, _, _, _, _, _, _, _, _, _, _, _, _, _, _, _, _, _, _, _, _, _, _, _, _, _, _, _, _, _, _, _, _, _, _, _, _, _, _, _, _, _, _, _, _, _, _, _, _, _, _, _, _, _, _, _, _, _, _, _, _, _, _, _, _, _, _, _, _, _, _, _, _, _, _, _, _, _, _, _, _, _, _, _, _, _, _, _, _, _, _, _, _, _, _, _, _, _, _, _, _, _, _, _, _, _, _, _, _, _, _, v 121, v 122, v 123, v 124, v 125, v 126, v 127, v 128, v 129, v 130, v 131, v 132, v 133, v 134, v 135, v 136, v 137, v 138, v 139, v 140, v 141, v 142, _, _, _, _, _, _, _], []⟩ ∧ RdBR tb xb gr gro R cg co j c cu p.m p.rc p.n (p.Kc R) (shN p) g4 g5 pc qc w.heap.size pu (duZ p j) zc sg z W2 L v W) (by kernel_rfl) (by kernel_rfl) ⟨fun jz => if jz = 121 then u121 else if jz = 122 then u122 else if jz = 123 then u123 else if jz = 124 then u124 else if jz = 125 then u125 else if jz = 126 then u126 else if jz = 127 then u127 else if jz = 128 then u128 else if jz = 129 then u129 else if jz = 130 then u130 else if jz = 131 then u131 else if jz = 132 then u132 else if jz = 133 then u133 else if jz = 134 then u134 else if jz = 135 then u135 else if jz = 136 then u136 else if jz = 137 then u137 else if jz = 138 then u138 else if jz = 139 then u139 else if jz = 140 then u140 else if jz = 141 then u141 else if jz = 142 then u142 else undef, rfl, ⟨(fun _ => Below.drew (Below.refl _ _)), Had.none, Had.none, Had.none, Had.none, Had.none, Had.none, Had.none, Had.none, Had.none, Had.none, Had.none, Had.none, Had.none, Had.none, Had.none, Had.none, Had.none, Had.none, Had.none, Had.none, Had.none, Had.none, Had.none, Had.none, Had.none, Had.none, Had.none, Had.none, Had.none, Had.none, Had.none, Had.none, Had.none, Had.none, Had.none, Had.none, Had.none, Had.none⟩⟩ (rs := [0, 1, 2, 3, 4, 5, 6, 7, 8, 9, 10, 11, 12, 13, 14, 15, 16, 17, 18, 19, 20, 21, 22]) (by kernel_rfl) ?_ ?_
                  · refine EachOf.cons [] rfl (by kernel_rfl) ?_ ?_
                    · rintro L A W ⟨v, rfl, hR⟩ hi hw K hK
                      have hk : L 20 = false := hR.w20.not (hR.w1.not hi rfl) rfl
                      go_simp
                      refine hK.out _ _ ?_
                      exact ⟨(fun jz => if jz = 121 then .pointer (some ⟨tb, 0, none⟩) else v jz), rfl, ⟨(fun h => hR.st (upd_false h)), (fun _ => rfl), hR.f1.k rfl, hR.f2.k rfl, hR.f3.k rfl, hR.f4.k rfl, hR.f5.k rfl, hR.f6.k rfl, hR.f7.k rfl, hR.f8.k rfl, hR.f9.k rfl, hR.f10.k rfl, hR.f11.k rfl, hR.f12.k rfl, hR.f13.k rfl, hR.f14.k rfl, hR.f15.k rfl, hR.f16.k rfl, hR.f17.k rfl, hR.f18.k rfl, hR.x19.keepM rfl (fun h hx => h (upd_false hx)), hR.x20.keepM rfl (fun h hx => h (upd_false hx)), hR.f21.k rfl, hR.s1.k rfl, hR.w1.o rfl, hR.w4.o rfl, hR.w5.o rfl, hR.w7.o rfl, hR.w10.o rfl, hR.w11.o rfl, hR.w12.o rfl, hR.w13.o rfl, hR.w14.o rfl, hR.w16.o rfl, hR.w17.o rfl, hR.w18.o rfl, hR.w19.o rfl, hR.w20.o rfl, hR.w22.o rfl⟩⟩
                    refine EachOf.cons [0] rfl (by kernel_rfl) ?_ ?_
                    · rintro L A W ⟨v, rfl, hR⟩ hi hw K hK
                      have hk : L 20 = false := hR.w20.not hi rfl
                      have e0 := hR.f0 (hw 0 (by simp))
                      simp only [e0]
                      clear e0
                      have q0 := ((hR.st hk).cell (p := ⟨tb, 0, none⟩) LD.out.2).trans LD.out.1
                      go_simp
                      refine hK.out _ _ ?_
                      exact ⟨(fun jz => if jz = 121 then .pointer (some ⟨tb, 0, none⟩) else if jz = 122 then .slice pu c cu else v jz), rfl, ⟨(fun h => hR.st (upd_false h)), (fun _ => rfl), (fun _ => rfl), hR.f2.k rfl, hR.f3.k rfl, hR.f4.k rfl, hR.f5.k rfl, hR.f6.k rfl, hR.f7.k rfl, hR.f8.k rfl, hR.f9.k rfl, hR.f10.k rfl, hR.f11.k rfl, hR.f12.k rfl, hR.f13.k rfl, hR.f14.k rfl, hR.f15.k rfl, hR.f16.k rfl, hR.f17.k rfl, hR.f18.k rfl, hR.x19.keepM rfl (fun h hx => h (upd_false hx)), hR.x20.keepM rfl (fun h hx => h (upd_false hx)), hR.f21.k rfl, hR.s1.k rfl, (fun _ j hj => upd_on (hw j hj)), hR.w4.o rfl, hR.w5.o rfl, hR.w7.o rfl, hR.w10.o rfl, hR.w11.o rfl, hR.w12.o rfl, hR.w13.o rfl, hR.w14.o rfl, hR.w16.o rfl, hR.w17.o rfl, hR.w18.o rfl, hR.w19.o rfl, hR.w20.o rfl, hR.w22.o rfl⟩⟩
                    refine EachOf.cons [] rfl (by kernel_rfl) ?_ ?_
                    · rintro L A W ⟨v, rfl, hR⟩ hi hw K hK
                      have hk : L 20 = false := hR.w20.not (hR.w19.not (hR.w18.not (hR.w5.not (hR.w4.not hi rfl) rfl) rfl) rfl) rfl
                      go_simp
                      refine hK.out _ _ ?_
                      exact ⟨(fun jz => if jz = 123 then .slice (some ⟨g4, 0, none⟩) (shN p) (pc) else v jz), rfl, ⟨(fun h => hR.st (upd_false h)), hR.f0.k rfl, hR.f1.k rfl, (fun _ => rfl), hR.f3.k rfl, hR.f4.k rfl, hR.f5.k rfl, hR.f6.k rfl, hR.f7.k rfl, hR.f8.k rfl, hR.f9.k rfl, hR.f10.k rfl, hR.f11.k rfl, hR.f12.k rfl, hR.f13.k rfl, hR.f14.k rfl, hR.f15.k rfl, hR.f16.k rfl, hR.f17.k rfl, hR.f18.k rfl, hR.x19.keepM rfl (fun h hx => h (upd_false hx)), hR.x20.keepM rfl (fun h hx => h (upd_false hx)), hR.f21.k rfl, hR.s1.k rfl, hR.w1.o rfl, hR.w4.o rfl, hR.w5.o rfl, hR.w7.o rfl, hR.w10.o rfl, hR.w11.o rfl, hR.w12.o rfl, hR.w13.o rfl, hR.w14.o rfl, hR.w16.o rfl, hR.w17.o rfl, hR.w18.o rfl, hR.w19.o rfl, hR.w20.o rfl, hR.w22.o rfl⟩⟩
                    refine EachOf.cons [] rfl (by kernel_rfl) ?_ ?_
                    · rintro L A W ⟨v, rfl, hR⟩ hi hw K hK
                      have hk : L 20 = false := hR.w20.not (hR.w19.not (hR.w18.not (hR.w5.not (hR.w4.not hi rfl) rfl) rfl) rfl) rfl
                      go_simp
                      refine hK.out _ _ ?_
                      exact ⟨(fun jz => if jz = 124 then .int .i64 (c : Int) else v jz), rfl, ⟨(fun h => hR.st (upd_false h)), hR.f0.k rfl, hR.f1.k rfl, hR.f2.k rfl, (fun _ => rfl), hR.f4.k rfl, hR.f5.k rfl, hR.f6.k rfl, hR.f7.k rfl, hR.f8.k rfl, hR.f9.k rfl, hR.f10.k rfl, hR.f11.k rfl, hR.f12.k rfl, hR.f13.k rfl, hR.f14.k rfl, hR.f15.k rfl, hR.f16.k rfl, hR.f17.k rfl, hR.f18.k rfl, hR.x19.keepM rfl (fun h hx => h (upd_false hx)), hR.x20.keepM rfl (fun h hx => h (upd_false hx)), hR.f21.k rfl, hR.s1.k rfl, hR.w1.o rfl, hR.w4.o rfl, hR.w5.o rfl, hR.w7.o rfl, hR.w10.o rfl, hR.w11.o rfl, hR.w12.o rfl, hR.w13.o rfl, hR.w14.o rfl, hR.w16.o rfl, hR.w17.o rfl, hR.w18.o rfl, hR.w19.o rfl, hR.w20.o rfl, hR.w22.o rfl⟩⟩
                    refine EachOf.cons [2, 3] rfl (by kernel_rfl) ?_ ?_
                    · rintro L A W ⟨v, rfl, hR⟩ hi hw K hK
                      have hk : L 20 = false := hR.w20.not (hR.w19.not (hR.w18.not (hR.w5.not hi rfl) rfl) rfl) rfl
                      have e2 := hR.f2 (hw 2 (by simp))
                      have e3 := hR.f3 (hw 3 (by simp))
                      simp only [e2, e3]
                      clear e2 e3
                      go_simp
                      refine hK.out _ _ ?_
                      exact ⟨(fun jz => if jz = 123 then .slice (some ⟨g4, 0, none⟩) (shN p) (pc) else if jz = 124 then .int .i64 (c : Int) else if jz = 125 then .pointer (some ⟨g4, c, none⟩) else v jz), rfl, ⟨(fun h => hR.st (upd_false h)), hR.f0.k rfl, hR.f1.k rfl, (fun _ => rfl), (fun _ => rfl), (fun _ => rfl), hR.f5.k rfl, hR.f6.k rfl, hR.f7.k rfl, hR.f8.k rfl, hR.f9.k rfl, hR.f10.k rfl, hR.f11.k rfl, hR.f12.k rfl, hR.f13.k rfl, hR.f14.k rfl, hR.f15.k rfl, hR.f16.k rfl, hR.f17.k rfl, hR.f18.k rfl, hR.x19.keepM rfl (fun h hx => h (upd_false hx)), hR.x20.keepM rfl (fun h hx => h (upd_false hx)), hR.f21.k rfl, hR.s1.k rfl, hR.w1.o rfl, (fun _ j hj => upd_on (hw j hj)), hR.w5.o rfl, hR.w7.o rfl, hR.w10.o rfl, hR.w11.o rfl, hR.w12.o rfl, hR.w13.o rfl, hR.w14.o rfl, hR.w16.o rfl, hR.w17.o rfl, hR.w18.o rfl, hR.w19.o rfl, hR.w20.o rfl, hR.w22.o rfl⟩⟩
                    refine EachOf.cons [4] rfl (by kernel_rfl) ?_ ?_
                    · rintro L A W ⟨v, rfl, hR⟩ hi hw K hK
                      have hk : L 20 = false := hR.w20.not (hR.w19.not (hR.w18.not hi rfl) rfl) rfl
                      have e4 := hR.f4 (hw 4 (by simp))
                      simp only [e4]
                      clear e4
                      have q0 := ((hR.st hk).cell (p := ⟨g4, c, none⟩) LS1.out.2).trans LS1.out.1
                      go_simp
                      refine hK.out _ _ ?_
                      exact ⟨(fun jz => if jz = 125 then .pointer (some ⟨g4, c, none⟩) else if jz = 126 then .int .i64 sg else v jz), rfl, ⟨(fun h => hR.st (upd_false h)), hR.f0.k rfl, hR.f1.k rfl, hR.f2.k rfl, hR.f3.k rfl, (fun _ => rfl), (fun _ => rfl), hR.f6.k rfl, hR.f7.k rfl, hR.f8.k rfl, hR.f9.k rfl, hR.f10.k rfl, hR.f11.k rfl, hR.f12.k rfl, hR.f13.k rfl, hR.f14.k rfl, hR.f15.k rfl, hR.f16.k rfl, hR.f17.k rfl, hR.f18.k rfl, hR.x19.keepM rfl (fun h hx => h (upd_false hx)), hR.x20.keepM rfl (fun h hx => h (upd_false hx)), hR.f21.k rfl, hR.s1.k rfl, hR.w1.o rfl, hR.w4.o rfl, (fun _ j hj => upd_on (hw j hj)), hR.w7.o rfl, hR.w10.o rfl, hR.w11.o rfl, hR.w12.o rfl, hR.w13.o rfl, hR.w14.o rfl, hR.w16.o rfl, hR.w17.o rfl, hR.w18.o rfl, hR.w19.o rfl, hR.w20.o rfl, hR.w22.o rfl⟩⟩
                    refine EachOf.cons [] rfl (by kernel_rfl) ?_ ?_
                    · rintro L A W ⟨v, rfl, hR⟩ hi hw K hK
                      have hk : L 20 = false := hR.w20.not (hR.w19.not (hR.w18.not (hR.w17.not (hR.w16.not (hR.w14.not (hR.w13.not (hR.w12.not (hR.w7.not hi rfl) rfl) rfl) rfl) rfl) rfl) rfl) rfl) rfl
                      go_simp
                      refine hK.out _ _ ?_
                      exact ⟨(fun jz => if jz = 127 then .pointer (some ⟨xb, 1, none⟩) else v jz), rfl, ⟨(fun h => hR.st (upd_false h)), hR.f0.k rfl, hR.f1.k rfl, hR.f2.k rfl, hR.f3.k rfl, hR.f4.k rfl, hR.f5.k rfl, (fun _ => rfl), hR.f7.k rfl, hR.f8.k rfl, hR.f9.k rfl, hR.f10.k rfl, hR.f11.k rfl, hR.f12.k rfl, hR.f13.k rfl, hR.f14.k rfl, hR.f15.k rfl, hR.f16.k rfl, hR.f17.k rfl, hR.f18.k rfl, hR.x19.keepM rfl (fun h hx => h (upd_false hx)), hR.x20.keepM rfl (fun h hx => h (upd_false hx)), hR.f21.k rfl, hR.s1.k rfl, hR.w1.o rfl, hR.w4.o rfl, hR.w5.o rfl, hR.w7.o rfl, hR.w10.o rfl, hR.w11.o rfl, hR.w12.o rfl, hR.w13.o rfl, hR.w14.o rfl, hR.w16.o rfl, hR.w17.o rfl, hR.w18.o rfl, hR.w19.o rfl, hR.w20.o rfl, hR.w22.o rfl⟩⟩
                    refine EachOf.cons [6] rfl (by kernel_rfl) ?_ ?_
                    · rintro L A W ⟨v, rfl, hR⟩ hi hw K hK
                      have hk : L 20 = false := hR.w20.not (hR.w19.not (hR.w18.not (hR.w17.not (hR.w16.not (hR.w14.not (hR.w13.not (hR.w12.not hi rfl) rfl) rfl) rfl) rfl) rfl) rfl) rfl
                      have e6 := hR.f6 (hw 6 (by simp))
                      simp only [e6]
                      clear e6
                      have q0 := ((hR.st hk).cell (p := ⟨xb, 1, none⟩) LX1.out.2).trans LX1.out.1
                      go_simp
                      refine hK.out _ _ ?_
                      exact ⟨(fun jz => if jz = 127 then .pointer (some ⟨xb, 1, none⟩) else if jz = 128 then .slice (some ⟨gr, gro, none⟩) (p.m) (p.rc) else v jz), rfl, ⟨(fun h => hR.st (upd_false h)), hR.f0.k rfl, hR.f1.k rfl, hR.f2.k rfl, hR.f3.k rfl, hR.f4.k rfl, hR.f5.k rfl, (fun _ => rfl), (fun _ => rfl), hR.f8.k rfl, hR.f9.k rfl, hR.f10.k rfl, hR.f11.k rfl, hR.f12.k rfl, hR.f13.k rfl, hR.f14.k rfl, hR.f15.k rfl, hR.f16.k rfl, hR.f17.k rfl, hR.f18.k rfl, hR.x19.keepM rfl (fun h hx => h (upd_false hx)), hR.x20.keepM rfl (fun h hx => h (upd_false hx)), hR.f21.k rfl, hR.s1.k rfl, hR.w1.o rfl, hR.w4.o rfl, hR.w5.o rfl, (fun _ j hj => upd_on (hw j hj)), hR.w10.o rfl, hR.w11.o rfl, hR.w12.o rfl, hR.w13.o rfl, hR.w14.o rfl, hR.w16.o rfl, hR.w17.o rfl, hR.w18.o rfl, hR.w19.o rfl, hR.w20.o rfl, hR.w22.o rfl⟩⟩
                    refine EachOf.cons [] rfl (by kernel_rfl) ?_ ?_
                    · rintro L A W ⟨v, rfl, hR⟩ hi hw K hK
                      have hk : L 20 = false := hR.w20.not (hR.w19.not (hR.w18.not (hR.w17.not (hR.w16.not (hR.w14.not (hR.w13.not (hR.w12.not (hR.w11.not (hR.w10.not hi rfl) rfl) rfl) rfl) rfl) rfl) rfl) rfl) rfl) rfl
                      go_simp
                      refine hK.out _ _ ?_
                      exact ⟨(fun jz => if jz = 129 then .slice (some ⟨g5, 0, none⟩) (shN p) (qc) else v jz), rfl, ⟨(fun h => hR.st (upd_false h)), hR.f0.k rfl, hR.f1.k rfl, hR.f2.k rfl, hR.f3.k rfl, hR.f4.k rfl, hR.f5.k rfl, hR.f6.k rfl, hR.f7.k rfl, (fun _ => rfl), hR.f9.k rfl, hR.f10.k rfl, hR.f11.k rfl, hR.f12.k rfl, hR.f13.k rfl, hR.f14.k rfl, hR.f15.k rfl, hR.f16.k rfl, hR.f17.k rfl, hR.f18.k rfl, hR.x19.keepM rfl (fun h hx => h (upd_false hx)), hR.x20.keepM rfl (fun h hx => h (upd_false hx)), hR.f21.k rfl, hR.s1.k rfl, hR.w1.o rfl, hR.w4.o rfl, hR.w5.o rfl, hR.w7.o rfl, hR.w10.o rfl, hR.w11.o rfl, hR.w12.o rfl, hR.w13.o rfl, hR.w14.o rfl, hR.w16.o rfl, hR.w17.o rfl, hR.w18.o rfl, hR.w19.o rfl, hR.w20.o rfl, hR.w22.o rfl⟩⟩
                    refine EachOf.cons [] rfl (by kernel_rfl) ?_ ?_
                    · rintro L A W ⟨v, rfl, hR⟩ hi hw K hK
                      have hk : L 20 = false := hR.w20.not (hR.w19.not (hR.w18.not (hR.w17.not (hR.w16.not (hR.w14.not (hR.w13.not (hR.w12.not (hR.w11.not (hR.w10.not hi rfl) rfl) rfl) rfl) rfl) rfl) rfl) rfl) rfl) rfl
                      go_simp
                      refine hK.out _ _ ?_
                      exact ⟨(fun jz => if jz = 130 then .int .i64 (c : Int) else v jz), rfl, ⟨(fun h => hR.st (upd_false h)), hR.f0.k rfl, hR.f1.k rfl, hR.f2.k rfl, hR.f3.k rfl, hR.f4.k rfl, hR.f5.k rfl, hR.f6.k rfl, hR.f7.k rfl, hR.f8.k rfl, (fun _ => rfl), hR.f10.k rfl, hR.f11.k rfl, hR.f12.k rfl, hR.f13.k rfl, hR.f14.k rfl, hR.f15.k rfl, hR.f16.k rfl, hR.f17.k rfl, hR.f18.k rfl, hR.x19.keepM rfl (fun h hx => h (upd_false hx)), hR.x20.keepM rfl (fun h hx => h (upd_false hx)), hR.f21.k rfl, hR.s1.k rfl, hR.w1.o rfl, hR.w4.o rfl, hR.w5.o rfl, hR.w7.o rfl, hR.w10.o rfl, hR.w11.o rfl, hR.w12.o rfl, hR.w13.o rfl, hR.w14.o rfl, hR.w16.o rfl, hR.w17.o rfl, hR.w18.o rfl, hR.w19.o rfl, hR.w20.o rfl, hR.w22.o rfl⟩⟩
                    refine EachOf.cons [8, 9] rfl (by kernel_rfl) ?_ ?_
                    · rintro L A W ⟨v, rfl, hR⟩ hi hw K hK
                      have hk : L 20 = false := hR.w20.not (hR.w19.not (hR.w18.not (hR.w17.not (hR.w16.not (hR.w14.not (hR.w13.not (hR.w12.not (hR.w11.not hi rfl) rfl) rfl) rfl) rfl) rfl) rfl) rfl) rfl
                      have e8 := hR.f8 (hw 8 (by simp))
                      have e9 := hR.f9 (hw 9 (by simp))
                      simp only [e8, e9]
                      clear e8 e9
                      go_simp
                      refine hK.out _ _ ?_
                      exact ⟨(fun jz => if jz = 129 then .slice (some ⟨g5, 0, none⟩) (shN p) (qc) else if jz = 130 then .int .i64 (c : Int) else if jz = 131 then .pointer (some ⟨g5, c, none⟩) else v jz), rfl, ⟨(fun h => hR.st (upd_false h)), hR.f0.k rfl, hR.f1.k rfl, hR.f2.k rfl, hR.f3.k rfl, hR.f4.k rfl, hR.f5.k rfl, hR.f6.k rfl, hR.f7.k rfl, (fun _ => rfl), (fun _ => rfl), (fun _ => rfl), hR.f11.k rfl, hR.f12.k rfl, hR.f13.k rfl, hR.f14.k rfl, hR.f15.k rfl, hR.f16.k rfl, hR.f17.k rfl, hR.f18.k rfl, hR.x19.keepM rfl (fun h hx => h (upd_false hx)), hR.x20.keepM rfl (fun h hx => h (upd_false hx)), hR.f21.k rfl, hR.s1.k rfl, hR.w1.o rfl, hR.w4.o rfl, hR.w5.o rfl, hR.w7.o rfl, (fun _ j hj => upd_on (hw j hj)), hR.w11.o rfl, hR.w12.o rfl, hR.w13.o rfl, hR.w14.o rfl, hR.w16.o rfl, hR.w17.o rfl, hR.w18.o rfl, hR.w19.o rfl, hR.w20.o rfl, hR.w22.o rfl⟩⟩
                    refine EachOf.cons [10] rfl (by kernel_rfl) ?_ ?_
                    · rintro L A W ⟨v, rfl, hR⟩ hi hw K hK
                      have hk : L 20 = false := hR.w20.not (hR.w19.not (hR.w18.not (hR.w17.not (hR.w16.not (hR.w14.not (hR.w13.not (hR.w12.not hi rfl) rfl) rfl) rfl) rfl) rfl) rfl) rfl
                      have e10 := hR.f10 (hw 10 (by simp))
                      simp only [e10]
                      clear e10
                      have q0 := ((hR.st hk).cell (p := ⟨g5, c, none⟩) LS0.out.2).trans LS0.out.1
                      go_simp
                      refine hK.out _ _ ?_
                      exact ⟨(fun jz => if jz = 131 then .pointer (some ⟨g5, c, none⟩) else if jz = 132 then .int .i64 (R : Int) else v jz), rfl, ⟨(fun h => hR.st (upd_false h)), hR.f0.k rfl, hR.f1.k rfl, hR.f2.k rfl, hR.f3.k rfl, hR.f4.k rfl, hR.f5.k rfl, hR.f6.k rfl, hR.f7.k rfl, hR.f8.k rfl, hR.f9.k rfl, (fun _ => rfl), (fun _ => rfl), hR.f12.k rfl, hR.f13.k rfl, hR.f14.k rfl, hR.f15.k rfl, hR.f16.k rfl, hR.f17.k rfl, hR.f18.k rfl, hR.x19.keepM rfl (fun h hx => h (upd_false hx)), hR.x20.keepM rfl (fun h hx => h (upd_false hx)), hR.f21.k rfl, hR.s1.k rfl, hR.w1.o rfl, hR.w4.o rfl, hR.w5.o rfl, hR.w7.o rfl, hR.w10.o rfl, (fun _ j hj => upd_on (hw j hj)), hR.w12.o rfl, hR.w13.o rfl, hR.w14.o rfl, hR.w16.o rfl, hR.w17.o rfl, hR.w18.o rfl, hR.w19.o rfl, hR.w20.o rfl, hR.w22.o rfl⟩⟩
                    refine EachOf.cons [7, 11] rfl (by kernel_rfl) ?_ ?_
                    · rintro L A W ⟨v, rfl, hR⟩ hi hw K hK
                      have hk : L 20 = false := hR.w20.not (hR.w19.not (hR.w18.not (hR.w17.not (hR.w16.not (hR.w14.not (hR.w13.not hi rfl) rfl) rfl) rfl) rfl) rfl) rfl
                      have e7 := hR.f7 (hw 7 (by simp))
                      have e11 := hR.f11 (hw 11 (by simp))
                      simp only [e7, e11]
                      clear e7 e11
                      go_simp
                      refine hK.out _ _ ?_
                      exact ⟨(fun jz => if jz = 128 then .slice (some ⟨gr, gro, none⟩) (p.m) (p.rc) else if jz = 132 then .int .i64 (R : Int) else if jz = 133 then .pointer (some ⟨gr, gro + R * 3, none⟩) else v jz), rfl, ⟨(fun h => hR.st (upd_false h)), hR.f0.k rfl, hR.f1.k rfl, hR.f2.k rfl, hR.f3.k rfl, hR.f4.k rfl, hR.f5.k rfl, hR.f6.k rfl, (fun _ => rfl), hR.f8.k rfl, hR.f9.k rfl, hR.f10.k rfl, (fun _ => rfl), (fun _ => rfl), hR.f13.k rfl, hR.f14.k rfl, hR.f15.k rfl, hR.f16.k rfl, hR.f17.k rfl, hR.f18.k rfl, hR.x19.keepM rfl (fun h hx => h (upd_false hx)), hR.x20.keepM rfl (fun h hx => h (upd_false hx)), hR.f21.k rfl, hR.s1.k rfl, hR.w1.o rfl, hR.w4.o rfl, hR.w5.o rfl, hR.w7.o rfl, hR.w10.o rfl, hR.w11.o rfl, (fun _ j hj => upd_on (hw j hj)), hR.w13.o rfl, hR.w14.o rfl, hR.w16.o rfl, hR.w17.o rfl, hR.w18.o rfl, hR.w19.o rfl, hR.w20.o rfl, hR.w22.o rfl⟩⟩
                    refine EachOf.cons [12] rfl (by kernel_rfl) ?_ ?_
                    · rintro L A W ⟨v, rfl, hR⟩ hi hw K hK
                      have hk : L 20 = false := hR.w20.not (hR.w19.not (hR.w18.not (hR.w17.not (hR.w16.not (hR.w14.not hi rfl) rfl) rfl) rfl) rfl) rfl
                      have e12 := hR.f12 (hw 12 (by simp))
                      simp only [e12]
                      clear e12
                      go_simp
                      refine hK.out _ _ ?_
                      exact ⟨(fun jz => if jz = 133 then .pointer (some ⟨gr, gro + R * 3, none⟩) else if jz = 134 then .pointer (some ⟨gr, gro + R * 3, none⟩) else v jz), rfl, ⟨(fun h => hR.st (upd_false h)), hR.f0.k rfl, hR.f1.k rfl, hR.f2.k rfl, hR.f3.k rfl, hR.f4.k rfl, hR.f5.k rfl, hR.f6.k rfl, hR.f7.k rfl, hR.f8.k rfl, hR.f9.k rfl, hR.f10.k rfl, hR.f11.k rfl, (fun _ => rfl), (fun _ => rfl), hR.f14.k rfl, hR.f15.k rfl, hR.f16.k rfl, hR.f17.k rfl, hR.f18.k rfl, hR.x19.keepM rfl (fun h hx => h (upd_false hx)), hR.x20.keepM rfl (fun h hx => h (upd_false hx)), hR.f21.k rfl, hR.s1.k rfl, hR.w1.o rfl, hR.w4.o rfl, hR.w5.o rfl, hR.w7.o rfl, hR.w10.o rfl, hR.w11.o rfl, hR.w12.o rfl, (fun _ j hj => upd_on (hw j hj)), hR.w14.o rfl, hR.w16.o rfl, hR.w17.o rfl, hR.w18.o rfl, hR.w19.o rfl, hR.w20.o rfl, hR.w22.o rfl⟩⟩
                    refine EachOf.cons [13] rfl (by kernel_rfl) ?_ ?_
                    · rintro L A W ⟨v, rfl, hR⟩ hi hw K hK
                      have hk : L 20 = false := hR.w20.not (hR.w19.not (hR.w18.not (hR.w17.not (hR.w16.not hi rfl) rfl) rfl) rfl) rfl
                      have e13 := hR.f13 (hw 13 (by simp))
                      simp only [e13]
                      clear e13
                      have q0 := ((hR.st hk).cell (p := ⟨gr, gro + R * 3, none⟩) LR2.out.2).trans LR2.out.1
                      go_simp
                      refine hK.out _ _ ?_
                      exact ⟨(fun jz => if jz = 134 then .pointer (some ⟨gr, gro + R * 3, none⟩) else if jz = 135 then .slice (some ⟨cg, co, none⟩) (p.n) ((p.Kc R)) else v jz), rfl, ⟨(fun h => hR.st (upd_false h)), hR.f0.k rfl, hR.f1.k rfl, hR.f2.k rfl, hR.f3.k rfl, hR.f4.k rfl, hR.f5.k rfl, hR.f6.k rfl, hR.f7.k rfl, hR.f8.k rfl, hR.f9.k rfl, hR.f10.k rfl, hR.f11.k rfl, hR.f12.k rfl, (fun _ => rfl), (fun _ => rfl), hR.f15.k rfl, hR.f16.k rfl, hR.f17.k rfl, hR.f18.k rfl, hR.x19.keepM rfl (fun h hx => h (upd_false hx)), hR.x20.keepM rfl (fun h hx => h (upd_false hx)), hR.f21.k rfl, hR.s1.k rfl, hR.w1.o rfl, hR.w4.o rfl, hR.w5.o rfl, hR.w7.o rfl, hR.w10.o rfl, hR.w11.o rfl, hR.w12.o rfl, hR.w13.o rfl, (fun _ j hj => upd_on (hw j hj)), hR.w16.o rfl, hR.w17.o rfl, hR.w18.o rfl, hR.w19.o rfl, hR.w20.o rfl, hR.w22.o rfl⟩⟩
                    refine EachOf.cons [] rfl (by kernel_rfl) ?_ ?_
                    · rintro L A W ⟨v, rfl, hR⟩ hi hw K hK
                      have hk : L 20 = false := hR.w20.not (hR.w19.not (hR.w18.not (hR.w17.not (hR.w16.not hi rfl) rfl) rfl) rfl) rfl
                      go_simp
                      refine hK.out _ _ ?_
                      exact ⟨(fun jz => if jz = 136 then .int .i64 (j : Int) else v jz), rfl, ⟨(fun h => hR.st (upd_false h)), hR.f0.k rfl, hR.f1.k rfl, hR.f2.k rfl, hR.f3.k rfl, hR.f4.k rfl, hR.f5.k rfl, hR.f6.k rfl, hR.f7.k rfl, hR.f8.k rfl, hR.f9.k rfl, hR.f10.k rfl, hR.f11.k rfl, hR.f12.k rfl, hR.f13.k rfl, hR.f14.k rfl, (fun _ => rfl), hR.f16.k rfl, hR.f17.k rfl, hR.f18.k rfl, hR.x19.keepM rfl (fun h hx => h (upd_false hx)), hR.x20.keepM rfl (fun h hx => h (upd_false hx)), hR.f21.k rfl, hR.s1.k rfl, hR.w1.o rfl, hR.w4.o rfl, hR.w5.o rfl, hR.w7.o rfl, hR.w10.o rfl, hR.w11.o rfl, hR.w12.o rfl, hR.w13.o rfl, hR.w14.o rfl, hR.w16.o rfl, hR.w17.o rfl, hR.w18.o rfl, hR.w19.o rfl, hR.w20.o rfl, hR.w22.o rfl⟩⟩
                    refine EachOf.cons [14, 15] rfl (by kernel_rfl) ?_ ?_
                    · rintro L A W ⟨v, rfl, hR⟩ hi hw K hK
                      have hk : L 20 = false := hR.w20.not (hR.w19.not (hR.w18.not (hR.w17.not hi rfl) rfl) rfl) rfl
                      have e14 := hR.f14 (hw 14 (by simp))
                      have e15 := hR.f15 (hw 15 (by simp))
                      simp only [e14, e15]
                      clear e14 e15
                      go_simp
                      refine hK.out _ _ ?_
                      exact ⟨(fun jz => if jz = 135 then .slice (some ⟨cg, co, none⟩) (p.n) ((p.Kc R)) else if jz = 136 then .int .i64 (j : Int) else if jz = 137 then .pointer (some ⟨cg, co + j, none⟩) else v jz), rfl, ⟨(fun h => hR.st (upd_false h)), hR.f0.k rfl, hR.f1.k rfl, hR.f2.k rfl, hR.f3.k rfl, hR.f4.k rfl, hR.f5.k rfl, hR.f6.k rfl, hR.f7.k rfl, hR.f8.k rfl, hR.f9.k rfl, hR.f10.k rfl, hR.f11.k rfl, hR.f12.k rfl, hR.f13.k rfl, (fun _ => rfl), (fun _ => rfl), (fun _ => rfl), hR.f17.k rfl, hR.f18.k rfl, hR.x19.keepM rfl (fun h hx => h (upd_false hx)), hR.x20.keepM rfl (fun h hx => h (upd_false hx)), hR.f21.k rfl, hR.s1.k rfl, hR.w1.o rfl, hR.w4.o rfl, hR.w5.o rfl, hR.w7.o rfl, hR.w10.o rfl, hR.w11.o rfl, hR.w12.o rfl, hR.w13.o rfl, hR.w14.o rfl, (fun _ j hj => upd_on (hw j hj)), hR.w17.o rfl, hR.w18.o rfl, hR.w19.o rfl, hR.w20.o rfl, hR.w22.o rfl⟩⟩
                    refine EachOf.cons [16] rfl (by kernel_rfl) ?_ ?_
                    · rintro L A W ⟨v, rfl, hR⟩ hi hw K hK
                      have hk : L 20 = false := hR.w20.not (hR.w19.not (hR.w18.not hi rfl) rfl) rfl
                      have e16 := hR.f16 (hw 16 (by simp))
                      simp only [e16]
                      clear e16
                      have q0 := ((hR.st hk).cell (p := ⟨cg, co + j, none⟩) LZ.out.2).trans LZ.out.1
                      go_simp
                      refine hK.out _ _ ?_
                      exact ⟨(fun jz => if jz = 137 then .pointer (some ⟨cg, co + j, none⟩) else if jz = 138 then .int .i64 zc else v jz), rfl, ⟨(fun h => hR.st (upd_false h)), hR.f0.k rfl, hR.f1.k rfl, hR.f2.k rfl, hR.f3.k rfl, hR.f4.k rfl, hR.f5.k rfl, hR.f6.k rfl, hR.f7.k rfl, hR.f8.k rfl, hR.f9.k rfl, hR.f10.k rfl, hR.f11.k rfl, hR.f12.k rfl, hR.f13.k rfl, hR.f14.k rfl, hR.f15.k rfl, (fun _ => rfl), (fun _ => rfl), hR.f18.k rfl, hR.x19.keepM rfl (fun h hx => h (upd_false hx)), hR.x20.keepM rfl (fun h hx => h (upd_false hx)), hR.f21.k rfl, hR.s1.k rfl, hR.w1.o rfl, hR.w4.o rfl, hR.w5.o rfl, hR.w7.o rfl, hR.w10.o rfl, hR.w11.o rfl, hR.w12.o rfl, hR.w13.o rfl, hR.w14.o rfl, hR.w16.o rfl, (fun _ j hj => upd_on (hw j hj)), hR.w18.o rfl, hR.w19.o rfl, hR.w20.o rfl, hR.w22.o rfl⟩⟩
                    refine EachOf.cons [5, 17] rfl (by kernel_rfl) ?_ ?_
                    · rintro L A W ⟨v, rfl, hR⟩ hi hw K hK
                      have hk : L 20 = false := hR.w20.not (hR.w19.not hi rfl) rfl
                      have e5 := hR.f5 (hw 5 (by simp))
                      have e17 := hR.f17 (hw 17 (by simp))
                      simp only [e5, e17]
                      clear e5 e17
                      go_simp
                      refine hK.out _ _ ?_
                      exact ⟨(fun jz => if jz = 126 then .int .i64 sg else if jz = 138 then .int .i64 zc else if jz = 139 then .int .i64 z else v jz), rfl, ⟨(fun h => hR.st (upd_false h)), hR.f0.k rfl, hR.f1.k rfl, hR.f2.k rfl, hR.f3.k rfl, hR.f4.k rfl, (fun _ => rfl), hR.f6.k rfl, hR.f7.k rfl, hR.f8.k rfl, hR.f9.k rfl, hR.f10.k rfl, hR.f11.k rfl, hR.f12.k rfl, hR.f13.k rfl, hR.f14.k rfl, hR.f15.k rfl, hR.f16.k rfl, (fun _ => rfl), (fun _ => rfl), hR.x19.keepM rfl (fun h hx => h (upd_false hx)), hR.x20.keepM rfl (fun h hx => h (upd_false hx)), hR.f21.k rfl, hR.s1.k rfl, hR.w1.o rfl, hR.w4.o rfl, hR.w5.o rfl, hR.w7.o rfl, hR.w10.o rfl, hR.w11.o rfl, hR.w12.o rfl, hR.w13.o rfl, hR.w14.o rfl, hR.w16.o rfl, hR.w17.o rfl, (fun _ j hj => upd_on (hw j hj)), hR.w19.o rfl, hR.w20.o rfl, hR.w22.o rfl⟩⟩
                    refine EachOf.cons [18] rfl (by kernel_rfl) ?_ ?_
                    · rintro L A W ⟨v, rfl, hR⟩ hi hw K hK
                      have hk : L 20 = false := hR.w20.not hi rfl
                      have hk22 : L 22 = false := hR.w22.not hi rfl
                      have e18 := hR.f18 (hw 18 (by simp))
                      simp only [e18]
                      clear e18
                      have hb : Below W.heap.size W (W.alloc _) := (Below.refl _ _).alloc (Nat.le_refl _) (Obj.cells #[.int .i64 z] 3)
                      go_simp
                      refine hK.out _ _ ?_
                      exact ⟨(fun jz => if jz = 139 then .int .i64 z else if jz = 140 then .slice (some ⟨W.heap.size, 0, none⟩) 1 1 else v jz), rfl, ⟨(fun _ => below_on (hR.st hk) hb), hR.f0.k rfl, hR.f1.k rfl, hR.f2.k rfl, hR.f3.k rfl, hR.f4.k rfl, hR.f5.k rfl, hR.f6.k rfl, hR.f7.k rfl, hR.f8.k rfl, hR.f9.k rfl, hR.f10.k rfl, hR.f11.k rfl, hR.f12.k rfl, hR.f13.k rfl, hR.f14.k rfl, hR.f15.k rfl, hR.f16.k rfl, hR.f17.k rfl, (fun _ => rfl), (fun _ _ => ⟨W.heap.size, rfl, SlR.new _ _ _⟩), (fun h => absurd (upd_back h rfl) (by simp [hk])), hR.f21.k rfl, (fun h => absurd (upd_back h rfl) (by simp [hk22])), hR.w1.o rfl, hR.w4.o rfl, hR.w5.o rfl, hR.w7.o rfl, hR.w10.o rfl, hR.w11.o rfl, hR.w12.o rfl, hR.w13.o rfl, hR.w14.o rfl, hR.w16.o rfl, hR.w17.o rfl, hR.w18.o rfl, (fun _ j hj => upd_on (hw j hj)), hR.w20.o rfl, hR.w22.o rfl⟩⟩
                    refine EachOf.cons [1, 19] rfl (by kernel_rfl) ?_ ?_
                    · rintro L A W ⟨v, rfl, hR⟩ hi hw K hK
                      have hk : L 20 = false := hi
                      have hk22 : L 22 = false := hR.w22.not hi rfl
                      have e1 := hR.f1 (hw 1 (by simp))
                      simp only [e1]
                      clear e1
                      obtain ⟨B19, e19, hB19⟩ := hR.x19 (hw 19 (by simp)) hk
                      simp only [e19]
                      have hb := hR.st hi
                      have ho := own_only LO.out (Only.of_below (S := fun _ => False) hb) (fun _ _ q => q)
                      simp only [List.getElem_toArray, List.getElem_cons_succ, List.getElem_cons_zero]
                      rw [if_pos (show Region.wanted _ _ = true by rfl)]
                      refine wp_append_lies W _ _ 22 (by rfl) w.heap.size 3 i0 (.int .i64 0) 1 8 Try.underlying22 HI.out.1 HI.out.2.1 HI.out.2.2.1 HI.out.2.2.2 rfl (by decide) (.slice pu c cu) c _ (by rfl) ho ⟨B19, 0, none⟩ 1 1 [.int .i64 z] (by rfl) rfl (SlR.news hB19) (by intro u hu; simp at hu; subst hu; rfl) (by omega) (by unfold maxLen; omega) (by omega) (Nat.le_trans LB.out hb.size) _ rfl ?_
                      intro g cap w1 hown hgrow hat hlt
                      refine hK.out _ _ ?_
                      exact ⟨(fun jz => if jz = 122 then .slice pu c cu else if jz = 140 then .slice (some ⟨B19, 0, none⟩) 1 1 else if jz = 141 then .slice (some ⟨g, 0, none⟩) (c + 1) cap else v jz), rfl, ⟨(fun h => by simp [upd_self] at h), hR.f0.k rfl, (fun _ => rfl), hR.f2.k rfl, hR.f3.k rfl, hR.f4.k rfl, hR.f5.k rfl, hR.f6.k rfl, hR.f7.k rfl, hR.f8.k rfl, hR.f9.k rfl, hR.f10.k rfl, hR.f11.k rfl, hR.f12.k rfl, hR.f13.k rfl, hR.f14.k rfl, hR.f15.k rfl, hR.f16.k rfl, hR.f17.k rfl, hR.f18.k rfl, (fun _ h => by simp [upd_self] at h), (fun _ _ => AppW.make hb hgrow hown hat hlt), hR.f21.k rfl, (fun h => absurd (upd_back h rfl) (by simp [hk22])), hR.w1.o rfl, hR.w4.o rfl, hR.w5.o rfl, hR.w7.o rfl, hR.w10.o rfl, hR.w11.o rfl, hR.w12.o rfl, hR.w13.o rfl, hR.w14.o rfl, hR.w16.o rfl, hR.w17.o rfl, hR.w18.o rfl, hR.w19.o rfl, (fun _ j hj => upd_on (hw j hj)), hR.w22.o rfl⟩⟩
                    refine EachOf.cons [] rfl (by kernel_rfl) ?_ ?_
                    · rintro L A W ⟨v, rfl, hR⟩ hi hw K hK
                      go_simp
                      refine hK.out _ _ ?_
                      exact ⟨(fun jz => if jz = 142 then .pointer (some ⟨tb, 0, none⟩) else v jz), rfl, ⟨(fun h => hR.st (upd_false h)), hR.f0.k rfl, hR.f1.k rfl, hR.f2.k rfl, hR.f3.k rfl, hR.f4.k rfl, hR.f5.k rfl, hR.f6.k rfl, hR.f7.k rfl, hR.f8.k rfl, hR.f9.k rfl, hR.f10.k rfl, hR.f11.k rfl, hR.f12.k rfl, hR.f13.k rfl, hR.f14.k rfl, hR.f15.k rfl, hR.f16.k rfl, hR.f17.k rfl, hR.f18.k rfl, hR.x19.keepM rfl (fun h hx => h (upd_false hx)), hR.x20.keepM rfl (fun h hx => h (upd_false hx)), (fun _ => rfl), hR.s1.k rfl, hR.w1.o rfl, hR.w4.o rfl, hR.w5.o rfl, hR.w7.o rfl, hR.w10.o rfl, hR.w11.o rfl, hR.w12.o rfl, hR.w13.o rfl, hR.w14.o rfl, hR.w16.o rfl, hR.w17.o rfl, hR.w18.o rfl, hR.w19.o rfl, hR.w20.o rfl, hR.w22.o rfl⟩⟩
                    refine EachOf.cons [0, 1, 2, 3, 4, 5, 6, 7, 8, 9, 10, 11, 12, 13, 14, 15, 16, 17, 18, 19, 20, 21] rfl (by kernel_rfl) ?_ ?_
                    · rintro L A W ⟨v, rfl, hR⟩ hi hw K hK
                      have e21 := hR.f21 (hw 21 (by simp))
                      simp only [e21]
                      clear e21
                      have hA := hR.x20 (hw 20 (by simp)) hi
                      obtain ⟨gq, capq, hzz, hcase, hl⟩ := hA.form
                      rw [hzz] at hA
                      simp only [hzz]
                      have qf1 := (hA.only.cell (p := ⟨tb, 0, none⟩) LD.out.2 LN.out).trans LD.out.1
                      have qf2 := (hA.only.frozen (p := ⟨tb, 0, none⟩) LD.out.2 LN.out).trans LF.out
                      go_simp
                      refine hK.out _ _ ?_
                      exact ⟨(fun jz => if jz = 142 then .pointer (some ⟨tb, 0, none⟩) else if jz = 141 then .slice (some ⟨gq, 0, none⟩) (c + 1) capq else v jz), rfl, ⟨(fun h => absurd (hw 20 (by simp)) (by simp [upd_false h])), hR.f0.k rfl, hR.f1.k rfl, hR.f2.k rfl, hR.f3.k rfl, hR.f4.k rfl, hR.f5.k rfl, hR.f6.k rfl, hR.f7.k rfl, hR.f8.k rfl, hR.f9.k rfl, hR.f10.k rfl, hR.f11.k rfl, hR.f12.k rfl, hR.f13.k rfl, hR.f14.k rfl, hR.f15.k rfl, hR.f16.k rfl, hR.f17.k rfl, hR.f18.k rfl, (fun _ h => absurd (hw 20 (by simp)) (by simp [upd_false h])), (fun _ h => by simp [upd_self] at h), (fun _ => rfl), (fun _ => ⟨W, gq, capq, hA, rfl⟩), hR.w1.o rfl, hR.w4.o rfl, hR.w5.o rfl, hR.w7.o rfl, hR.w10.o rfl, hR.w11.o rfl, hR.w12.o rfl, hR.w13.o rfl, hR.w14.o rfl, hR.w16.o rfl, hR.w17.o rfl, hR.w18.o rfl, hR.w19.o rfl, hR.w20.o rfl, (fun _ j hj => upd_on (hw j hj))⟩⟩
                    exact EachOf.nil
                  rintro L A W ⟨v, rfl, hR⟩ hL
                  obtain ⟨W5, gq, cap, hA, rfl⟩ := hR.s1 (hL 22 (by simp))
                  have hqq : (Value.slice pu c cu).ownBlock = some gq ∨ W2.heap.size ≤ gq := by
                    obtain ⟨g2, cap2, h1, h2, h3⟩ := hA.form
                    have e4 : gq = g2 := by injection h1 with e1 e2 e3; injection e1 with e1; injection e1
                    rw [e4]; exact h2
                  have hgt : Wm.heap.size ≤ gq ∧ gq ≠ tb := by
                    rcases hqq with h | h
                    · exact S4.out.2.2 gq h
                    · have := S4.out.1.size
                      have := S4.out.2.1.hb
                      exact ⟨by omega, by omega⟩
                  have T : Hid (Below Wm.heap.size Wm (W5.setCell ⟨tb, 0, none⟩ (.slice (some ⟨gq, 0, none⟩) (c + 1) cap)) ∧ EBlk (W5.setCell ⟨tb, 0, none⟩ (.slice (some ⟨gq, 0, none⟩) (c + 1) cap)) tb (.slice (some ⟨gq, 0, none⟩) (c + 1) cap) (.int .i64 1) (.int .i64 cst) ∧ (W5.setCell ⟨tb, 0, none⟩ (.slice (some ⟨gq, 0, none⟩) (c + 1) cap)).ownsRow w.heap.size 3 1 (.slice (some ⟨gq, 0, none⟩) (c + 1) cap) (c + 1) ((List.range (c + 1)).map fun l => Value.int .i64 (duZ p j l)) ∧ ∀ q, (Value.slice (some ⟨gq, 0, none⟩) (c + 1) cap).ownBlock = some q → Wm.heap.size ≤ q ∧ q ≠ tb) := by
                    refine ⟨(S4.out.1.trans (hA.only.below S4.out.1.size (fun q hq => (S4.out.2.2 q hq).1))).setCell (p := ⟨tb, 0, none⟩) HTB.out _, (S4.out.2.1.only hA.only LN.out).set0 _, ?_, fun q hq => ?_⟩
                    · rw [intsC_succ, ← HZ.out]
                      exact own_only hA.own (only_set W5 ⟨tb, 0, none⟩ _) (fun q hq e => by
                        have e4 : gq = q := by injection hq
                        have e3 : q = tb := e
                        omega)
                    · have e4 : gq = q := by injection hq
                      subst e4
                      exact hgt
                  clear hqq hgt hA hR hL LD LX1 LR2 LZ LO LB LN LF S4 HZ LS0 LS1 wm lR lR2 lj lK HEC
                  go_wp2_with fail
                  rw [← er]
                  go_roundg (shN p - (c + 1))
                  case measure => omega
                  case rel => exact ⟨c + 1, rfl, rfl, by omega, _, T⟩
                · have e : c = shN p := by omega
                  obtain ⟨pu, cu, hcv⟩ := own_form S3.out.2.2.1
                  subst hcv
                  rw [e] at S3 ⊢
                  clear e hc2 hlt
                  obtain ⟨pw, cw, hrv⟩ := own_form S.out.1.r
                  have k0 := S3.out.2.1.c0
                  have k1 := S3.out.2.1.c1
                  have k2 := S3.out.2.1.c2
                  have hS1 := S.out.1.go S3.out.1
                  have k3 := hS1.d.2.2
                  have B1 : Hid (Below W1.heap.size W1 (W1.alloc (Obj.cells #[.slice pu (shN p) cu, .int .i64 1, .int .i64 cst] 50))) := (Below.refl _ _).alloc (Nat.le_refl _) _
                  have S5 := Lib.hid (hS1.go B1.out)
                  have BB := Lib.hid (below_on S.out.2 (below_on S3.out.1 B1.out))
                  have HPO : Hid ((W1.alloc (Obj.cells #[.slice pu (shN p) cu, .int .i64 1, .int .i64 cst] 50)).ownsRow w.heap.size 3 1 (.slice pu (shN p) cu) (shN p) ((List.range (shN p)).map fun l => Value.int .i64 (duZ p j l))) := own_only S3.out.2.2.1 (Only.of_below (S := fun _ => False) B1.out) (fun _ _ q => q)
                  have HPN : Hid (∀ q, (Value.slice pu (shN p) cu).ownBlock = some q → q ≠ db ∧ q ≠ gb ∧ rv.ownBlock ≠ some q) := fun q hq => by
                    have := (S3.out.2.2.2 q hq).1
                    have := S.out.1.d.1
                    have := S.out.1.g.1
                    exact ⟨by omega, by omega, fun e => by have := (S.out.1.r.lt q e).2; omega⟩
                  have A1 : Hid (∀ l u, [Value.slice pu (shN p) cu, .int .i64 1, .int .i64 cst][l]? = some u → (W1.alloc (Obj.cells #[.slice pu (shN p) cu, .int .i64 1, .int .i64 cst] 50)).cell? ((⟨W1.heap.size, 0, none⟩ : Addr).add l) = some u) := tri_news (by simp [go_sem]) (by simp [go_sem]) (by simp [go_sem])
                  have LN : Hid (¬ rv.ownBlock = some db) := fun e => ((S.out.1.rn db e).2.2.1 rfl)
                  clear hS1 S S3
                  subst hrv
                  have OR := Lib.hid S5.out.r
                  go_upto_region 26 with (at_builtin; refine wpList_append_lies _ rfl _ _ 23 rfl w.heap.size 50 i2 (.agg #[.slice none 0 0, .int .i64 0, .int .i64 0]) 3 40 Try.underlying23 HI2.out.1 HI2.out.2.1 HI2.out.2.2.1 HI2.out.2.2.2 rfl (by decide) _ _ _ rfl OR.out ⟨W1.heap.size, 0, none⟩ 1 1 [.slice pu (shN p) cu, .int .i64 1, .int .i64 cst] rfl rfl A1.out (by intro u hu; simp at hu; rcases hu with hu | hu | hu <;> subst hu <;> rfl) (by omega) (by unfold maxLen; omega) (by omega) BB.out.size _ rfl ?_; intro gq cap W4 hown hgrow hat hqlt; have kk1 := ((grown_only (Below.refl _ _) hgrow).cell (p := ⟨db, 1, none⟩) S5.out.d.1 LN.out).trans S5.out.d.2.2; have kk2 := ((grown_only (Below.refl _ _) hgrow).frozen (p := ⟨db, 1, none⟩) S5.out.d.1 LN.out).trans S5.out.dz.2)
                  have hA := grown_only (Below.refl _ _) hgrow
                  have hqq : (Value.slice pw j cw).ownBlock = some gq ∨ (W1.alloc (Obj.cells #[.slice pu (shN p) cu, .int .i64 1, .int .i64 cst] 50)).heap.size ≤ gq := hat.imp id (fun e => by rw [e]; exact Nat.le_refl _)
                  rw [← HCST.out] at hown
                  have T : Hid (RDu p w.heap.size (W4.setCell ⟨db, 1, none⟩ (.slice (some ⟨gq, 0, none⟩) (j + 1) cap)) xb gb db (.slice (some ⟨g4, 0, none⟩) (shN p) pc) (.slice (some ⟨g5, 0, none⟩) (shN p) qc) (shN p) (j + 1) cv (.slice (some ⟨gq, 0, none⟩) (j + 1) cap) (updG P j pu) (updG C j cu) ∧ Below w.heap.size w (W4.setCell ⟨db, 1, none⟩ (.slice (some ⟨gq, 0, none⟩) (j + 1) cap))) :=
                    ⟨S5.out.pushR HPO.out HPN.out hA hown hqq, (BB.out.trans (hA.below BB.out.size (fun q hq => (OR.out.lt q hq).1))).setCell (p := ⟨db, 1, none⟩) S5.out.lo.2.2 _⟩
                  clear hown hgrow hat hqlt kk1 kk2 hA hqq k0 k1 k2 k3 B1 S5 BB HPO HPN A1 LN OR
                  go_wp2_with fail
                  go_roundg (p.n - (j + 1))
                  case measure => omega
                  case rel => exact ⟨j + 1, rfl, rfl, by omega, _, _, _, T⟩
            · have e : j = p.n := by omega
              subst e
              obtain ⟨ca, cc, e1⟩ := own_form S.out.1.c
              obtain ⟨ra, rc, e2⟩ := own_form S.out.1.r
              subst e1 e2
              have k0 := S.out.1.d.2.1
              have k1 := S.out.1.d.2.2
              obtain ⟨_, c0, c1⟩ := S.out.1.g
              obtain ⟨f0, f1⟩ := S.out.1.gz
              have H5 := Lib.hid (Blk.set (x := .slice ca (shN p) cc) (y := .slice ra p.n rc) S.out.1.g)
              have B5 := Lib.hid (below_sets (w := w) (x := .slice ca (shN p) cc) (y := .slice ra p.n rc) S.out.2 S.out.1.lo.2.1)
              have F5 := Lib.hid (S.out.1.fin2 (only_sets Wm gb (.slice ca (shN p) cc) (.slice ra p.n rc)) (fun l hl q hq => (S.out.1.on l hl q hq).2))
              go_wp2_with fail
              clear k0 k1 c0 c1 f0 f1
              generalize (Wm.setCell ⟨gb, 0, none⟩ (.slice ca (shN p) cc)).setCell ⟨gb, 1, none⟩ (.slice ra p.n rc) = W5 at *
              have x0 := H5.out.2.1
              have x1 := H5.out.2.2
              (try simp only [Exit.inBlock, Exit.then])
              refine bodyPost_ret (by simp [results, Try.results12, x0, x1, go_sem]; rfl) rfl ?_
              exact ⟨B5.out, duP p ca cc ra rc P C, 0, rfl, F5.out, .inr (.inr (.inr (.inr ⟨rfl, HOK.out, hmp, ⟨hn6, hml⟩, HRT.out, duP_is p ca cc ra rc P C⟩)))⟩
    end Go.Proofs.Ytdbmlkkpffoadaa

namespace Go.Proofs.Ytdbmlkkpffoadaa
set_option linter.unusedVariables false
open Go.RowKit Go.Shelf

theorem dua_same {p q q2 : PgD} {er er2 : Int} (h : DuaO p q er) (k : DuaO p q2 er2) : er = er2 ∧ SameP q q2 := by
  have zz : SameP zeroPg zeroPg := ⟨rfl, rfl, fun _ _ => rfl, fun _ _ => rfl, fun _ _ => rfl, fun _ _ => rfl, fun _ _ _ _ => rfl⟩
  rcases h with ⟨e, h1, h2⟩ | ⟨e, h1, h2, h3⟩ | ⟨e, h1, h2, h3, h4⟩ | ⟨e, h1, h2, h3, h4, h5⟩ | ⟨e, h1, h2, h3, h4, h5⟩
  · rcases k with ⟨f, k1, k2⟩ | ⟨f, k1, _⟩ | ⟨f, k1, _⟩ | ⟨f, k1, _⟩ | ⟨f, k1, _⟩
    · exact ⟨by omega, by rw [h2, k2]; exact zz⟩
    · exact absurd k1 h1
    · exact absurd k1 h1
    · exact absurd k1 h1
    · exact absurd k1 h1
  · rcases k with ⟨f, k1, k2⟩ | ⟨f, k1, k2, k3⟩ | ⟨f, k1, k2, _⟩ | ⟨f, k1, k2, _⟩ | ⟨f, k1, k2, _⟩
    · exact absurd h1 k1
    · exact ⟨by omega, by rw [h3, k3]; exact zz⟩
    · omega
    · omega
    · omega
  · rcases k with ⟨f, k1, k2⟩ | ⟨f, k1, k2, k3⟩ | ⟨f, k1, k2, k3, k4⟩ | ⟨f, k1, k2, k3, _⟩ | ⟨f, k1, k2, k3, _⟩
    · exact absurd h1 k1
    · omega
    · exact ⟨by omega, by rw [h4, k4]; exact zz⟩
    · exact absurd k3 h3
    · exact absurd k3 h3
  · rcases k with ⟨f, k1, k2⟩ | ⟨f, k1, k2, k3⟩ | ⟨f, k1, k2, k3, k4⟩ | ⟨f, k1, k2, k3, k4, k5⟩ | ⟨f, k1, k2, k3, k4, _⟩
    · exact absurd h1 k1
    · omega
    · exact absurd h3 k3
    · exact ⟨by omega, by rw [h5, k5]; exact zz⟩
    · exact absurd k4 h4
  · rcases k with ⟨f, k1, k2⟩ | ⟨f, k1, k2, k3⟩ | ⟨f, k1, k2, k3, k4⟩ | ⟨f, k1, k2, k3, k4, _⟩ | ⟨f, k1, k2, k3, k4, k5⟩
    · exact absurd h1 k1
    · omega
    · exact absurd h3 k3
    · exact absurd h4 k4
    · refine ⟨by omega, h5.n.trans k5.n.symm, h5.m.trans k5.m.symm, fun j hj => ?_, fun i hi => ?_, fun i hi => ?_, fun i hi => ?_, fun i hi j hj => ?_⟩
      · rw [h5.n] at hj; rw [h5.c j hj, k5.c j hj]
      · rw [h5.m] at hi; rw [h5.k i hi, k5.k i hi]
      · rw [h5.m] at hi; rw [h5.r i hi, k5.r i hi]
      · rw [h5.m] at hi; rw [h5.l i hi, k5.l i hi]
      · rw [h5.m] at hi
        rw [h5.l i hi] at hj
        rw [h5.z i hi j hj, k5.z i hi j hj]
theorem zeroPg_sm : zeroPg.Sm := ⟨by decide, by decide, fun i h => absurd h (Nat.not_lt_zero _)⟩
theorem dua_form2 {p q : PgD} {er : Int} (h : DuaO p q er) : q = zeroPg ∨ (p.Ok ∧ IsDu p q) := by
  rcases h with ⟨e, _, h⟩ | ⟨e, _, _, h⟩ | ⟨e, _, _, _, h⟩ | ⟨e, _, _, _, _, h⟩ | ⟨e, ho, hm, ⟨hn, hk⟩, hr, hd⟩
  · exact .inl h
  · exact .inl h
  · exact .inl h
  · exact .inl h
  · exact .inr ⟨ho, hd⟩
theorem du_sm2 {p q : PgD} (hd : IsDu p q) (hv : p.Ok) : q.Sm := by
  have h1 := shL_len p p.m
  have hm2 := hv.m2
  have hn2 := hv.n2
  have h2 : shN p ≤ 12 := by unfold shN; omega
  exact ⟨by rw [hd.n]; omega, by rw [hd.m]; omega, fun j hj => by
    rw [hd.m] at hj
    rw [hd.l j hj]; omega⟩
theorem dua_sm {p q : PgD} {er : Int} (h : DuaO p q er) : q.Sm := by
  rcases dua_form2 h with h | ⟨h1, h2⟩
  · rw [h]; exact zeroPg_sm
  · exact du_sm2 h2 h1
theorem zeroPg_is2 : zeroPg.val = .agg #[.slice none 0 0, .slice none 0 0] := rfl

set_option maxRecDepth 100000 in
set_option maxHeartbeats 32000000 in
theorem lawDuals_any (p : PgD) (hs : p.Sm) (w : World) (hp : p.At w) :
    Calls Try.prog 3 #[p.val] w fun e w' => e = .returned (.bool true) ∧ Below w.heap.size w w' := by
  unfold PgD.val
  obtain ⟨v, hv⟩ := bool_of (FewP p)
  have hb1 : Below w.heap.size w (w.alloc (Obj.cells #[Value.slice p.ca p.n p.cc, .slice p.ra p.m p.rc] 25)) := (Below.refl _ _).alloc (Nat.le_refl _) _
  obtain ⟨w1, hw1⟩ : ∃ W, W = w.alloc (Obj.cells #[Value.slice p.ca p.n p.cc, .slice p.ra p.m p.rc] 25) := ⟨_, rfl⟩
  obtain ⟨xb, hxb⟩ : ∃ x, x = w.heap.size := ⟨_, rfl⟩
  have hB : Blk w1 xb (.slice p.ca p.n p.cc) (.slice p.ra p.m p.rc) := by rw [hw1, hxb]; exact Blk.new _ _ _ _
  rw [← hw1] at hb1
  have CA := Lib.hid (pawake_any w1)
  have CW := fun W (h : Below w.heap.size w W) => Lib.hid (few_any p v hv W (hp.on h))
  have HCW := Lib.hid CW
  have CD := fun W (h : Below w.heap.size w W) => Lib.hid (Dual_any p hs W (hp.on h))
  have HCD := Lib.hid CD
  obtain ⟨u, hu⟩ := bool_of p.Ok
  have HU := Lib.hid hu
  have HP := Lib.hid hp
  have HS := Lib.hid hs
  have HB := Lib.hid hb1
  have HXB := Lib.hid hB
  clear hb1 hB hv hp hs hu CW CD
  unfold PgD.val at HCW HCD
  go_enter Try.func3, Try.ntmps3
  go_upto_region 1 with fail
  rw [← hxb, ← hw1]
  clear hxb hw1
  go_wp2_with fail
  (with_reducible refine ((CA.out).mono ?_))
  rintro e w2 ⟨rfl, hb2⟩
  have HXB := Lib.hid (HXB.out.on hb2)
  have HB := Lib.hid (below_on HB.out hb2)
  clear hb2 CA
  have q0 := HXB.out.2.1
  have q1 := HXB.out.2.2
  cases v
  · go_wp2_with fail
    (with_reducible refine (((HCW.out _ HB.out).out).mono ?_))
    rintro e w3 ⟨rfl, hb2⟩
    go_wp2_with fail
    go_ret
    exact ⟨rfl, below_on HB.out hb2⟩
  go_wp2_with fail
  (with_reducible refine (((HCW.out _ HB.out).out).mono ?_))
  rintro e w3 ⟨rfl, hb2⟩
  have HXB := Lib.hid (HXB.out.on hb2)
  have HB := Lib.hid (below_on HB.out hb2)
  clear hb2 HCW q0 q1
  have q0 := HXB.out.2.1
  have q1 := HXB.out.2.2
  go_wp2_with fail
  (with_reducible refine (((HCD.out _ HB.out).out).mono ?_))
  rintro e w4 ⟨hb2, q, er, rfl, hat, hdo⟩
  have HXB := Lib.hid (HXB.out.on hb2)
  have HB := Lib.hid (below_on HB.out hb2)
  clear hb2
  have HDO := Lib.hid hdo
  have HQ := Lib.hid hat
  clear HCD q0 q1 hdo hat
  go_upto_region 6 with fail
  have hb2 : Below w4.heap.size w4 (w4.alloc (Obj.cells #[Value.slice q.ca q.n q.cc, .slice q.ra q.m q.rc] 25)) := (Below.refl _ _).alloc (Nat.le_refl _) _
  obtain ⟨w5, hw5⟩ : ∃ W, W = w4.alloc (Obj.cells #[Value.slice q.ca q.n q.cc, .slice q.ra q.m q.rc] 25) := ⟨_, rfl⟩
  obtain ⟨db, hdb⟩ : ∃ x, x = w4.heap.size := ⟨_, rfl⟩
  rw [← hdb, ← hw5]
  rw [← hw5] at hb2
  have HDB : Hid (Blk w5 db (.slice q.ca q.n q.cc) (.slice q.ra q.m q.rc)) := by rw [hw5, hdb]; exact Blk.new _ _ _ _
  clear hw5 hdb
  have HQ := Lib.hid (HQ.out.on hb2)
  have HXB := Lib.hid (HXB.out.on hb2)
  have HB := Lib.hid (below_on HB.out hb2)
  clear hb2
  have CV := fun W (h : Below w.heap.size w W) => Lib.hid (rpValid_any p HS.out u HU.out W (HP.out.on h))
  have HCV := Lib.hid CV
  unfold PgD.val at HCV
  have q0 := HXB.out.2.1
  have q1 := HXB.out.2.2
  clear CV
  go_wp2_with fail
  (with_reducible refine (((HCV.out _ HB.out).out).mono ?_))
  rintro e w6 ⟨rfl, hb2⟩
  have HDB := Lib.hid (HDB.out.on hb2)
  have HQ := Lib.hid (HQ.out.on hb2)
  have HXB := Lib.hid (HXB.out.on hb2)
  have HB := Lib.hid (below_on HB.out hb2)
  clear hb2
  clear HCV q0 q1
  cases u
  · have hno : ¬ p.Ok := fun h => by have := HU.out.2 h; cases this
    have hz : er = 1 ∧ q = zeroPg := by
      rcases HDO.out with ⟨f, k1, k2⟩ | ⟨f, k1, _⟩ | ⟨f, k1, _⟩ | ⟨f, k1, _⟩ | ⟨f, k1, _⟩
      · exact ⟨f, k2⟩
      · exact absurd k1 hno
      · exact absurd k1 hno
      · exact absurd k1 hno
      · exact absurd k1 hno
    obtain ⟨rfl, rfl⟩ := hz
    have k0 : w6.cell? ⟨db, 0, none⟩ = some (.slice none 0 0) := HDB.out.2.1
    have k1 : w6.cell? ⟨db, 1, none⟩ = some (.slice none 0 0) := HDB.out.2.2
    have CZ := Lib.hid (rpSame_any zeroPg zeroPg zeroPg_sm zeroPg_sm true ⟨fun _ => ⟨rfl, rfl, fun _ _ => rfl, fun _ _ => rfl, fun _ _ => rfl, fun _ _ => rfl, fun _ _ _ _ => rfl⟩, fun _ => rfl⟩ w6 (zeroPg_at _) (zeroPg_at _))
    rw [zeroPg_is2] at CZ
    clear HDO HQ HDB hno
    go_wp2_with fail
    (with_reducible refine ((CZ.out).mono ?_))
    rintro e w7 ⟨rfl, hb2⟩
    have HXB := Lib.hid (HXB.out.on hb2)
    have HB := Lib.hid (below_on HB.out hb2)
    clear hb2
    clear CZ k0 k1
    go_wp2_with fail
    go_ret
    exact ⟨rfl, HB.out⟩
  have hok : p.Ok := HU.out.1 rfl
  have CR := Lib.hid (rpDual_any p hok w6 (HP.out.on HB.out))
  unfold PgD.val at CR
  have q0 := HXB.out.2.1
  have q1 := HXB.out.2.2
  clear hok
  go_wp2_with fail
  (with_reducible refine ((CR.out).mono ?_))
  rintro e w7 ⟨hb2, q2, er2, rfl, hat, hdo⟩
  have HDB := Lib.hid (HDB.out.on hb2)
  have HQ := Lib.hid (HQ.out.on hb2)
  have HXB := Lib.hid (HXB.out.on hb2)
  have HB := Lib.hid (below_on HB.out hb2)
  clear hb2
  have hss := dua_same HDO.out hdo
  have HSM := Lib.hid (And.intro (dua_sm HDO.out) (And.intro (dua_sm hdo) hss.2))
  have hee := hss.1
  have HQ2 := Lib.hid hat
  clear CR q0 q1 hdo hat HDO hss
  subst hee
  go_upto_region 9 with fail
  have hb2 : Below w7.heap.size w7 (w7.alloc (Obj.cells #[Value.slice q2.ca q2.n q2.cc, .slice q2.ra q2.m q2.rc] 25)) := (Below.refl _ _).alloc (Nat.le_refl _) _
  obtain ⟨w8, hw8⟩ : ∃ W, W = w7.alloc (Obj.cells #[Value.slice q2.ca q2.n q2.cc, .slice q2.ra q2.m q2.rc] 25) := ⟨_, rfl⟩
  obtain ⟨eb, heb⟩ : ∃ x, x = w7.heap.size := ⟨_, rfl⟩
  rw [← heb, ← hw8]
  rw [← hw8] at hb2
  have HEB : Hid (Blk w8 eb (.slice q2.ca q2.n q2.cc) (.slice q2.ra q2.m q2.rc)) := by rw [hw8, heb]; exact Blk.new _ _ _ _
  clear hw8 heb
  have HDB := Lib.hid (HDB.out.on hb2)
  have HQ := Lib.hid (HQ.out.on hb2)
  have HQ2 := Lib.hid (HQ2.out.on hb2)
  have HXB := Lib.hid (HXB.out.on hb2)
  have HB := Lib.hid (below_on HB.out hb2)
  clear hb2
  have CZ := Lib.hid (rpSame_any q q2 HSM.out.1 HSM.out.2.1 true ⟨fun _ => HSM.out.2.2, fun _ => rfl⟩ w8 HQ.out HQ2.out)
  unfold PgD.val at CZ
  have k0 := HDB.out.2.1
  have k1 := HDB.out.2.2
  have k2 := HEB.out.2.1
  have k3 := HEB.out.2.2
  go_wp2_with fail
  (with_reducible refine ((CZ.out).mono ?_))
  rintro e w9 ⟨rfl, hb2⟩
  have HXB := Lib.hid (HXB.out.on hb2)
  have HB := Lib.hid (below_on HB.out hb2)
  clear hb2
  clear CZ k0 k1 k2 k3
  go_wp2_with fail
  go_ret
  exact ⟨rfl, HB.out⟩
theorem duals_at (p : PgD) (w : World) (hp : p.At w) (hs : p.Sm) : Calls Try.prog 3 #[p.val] w fun e w' => e = .returned (.bool true) ∧ Below w.heap.size w w' := lawDuals_any p hs w hp
end Go.Proofs.Ytdbmlkkpffoadaa
