/- The reference of layer 2: the greatest common divisor: the walk. -/
import Derived.Test.YtggpdhdbeokkcaaGreatRRef5
namespace Go.Proofs.YtggpdhdbeokkcaaGreat
set_option linter.unusedVariables false
open Go.RowKit Go.Shelf

set_option maxRecDepth 100000 in
set_option maxHeartbeats 4000000 in
theorem rgcd_any (A B : Int) (w : World) (A0 : 0 ≤ A) (A1 : A < 340282366920938463463374607431768211456) (B0 : 0 < B) (B1 : B < 340282366920938463463374607431768211456) :
  Calls Tryz.prog 35 #[.agg #[.int .u64 (hiW (A)), .int .u64 (loW (A))], .agg #[.int .u64 (hiW (B)), .int .u64 (loW (B))]] w fun e w' => e = .returned (.agg #[.int .u64 (hiW ((Int.gcd A B : Int))), .int .u64 (loW ((Int.gcd A B : Int)))]) ∧ Below w.heap.size w w' := by
 by_cases hz : A = 0
 ·subst hz
  have e1 : (Int.gcd 0 B : Int) = B := by simp; omega
  rw [e1]
  have z0 : hiW 0 = 0 := by decide
  have z1 : loW 0 = 0 := by decide
  rw [z0, z1]
  clear A0 A1 B0 B1 e1
  generalize hiW B = b1
  generalize loW B = b2
  go_enter Tryz.func35, Tryz.ntmps35
  go_wp2
  go_returns
  exact ⟨rfl, (by repeat' (first | (with_reducible exact Below.refl _ _) | (with_reducible assumption) | (with_reducible refine Below.alloc ?_ ?_ _) | (with_reducible refine below_drew ?_ _) | (with_reducible refine Below.drew ?_) | (with_reducible refine Below.setCell ?_ ?_ _) | go_size))⟩
 ·have I0 : Hid (Gcd1 A B 0 A B) := ⟨by omega, by omega, B0, by simp, by simp⟩
  have hA := words_ne (x := A) (by omega) A1
  have HB := Lib.hid (And.intro A1 B1)
  have hA2 : (hiW A == 0) = false ∨ ((hiW A == 0) = true ∧ (loW A == 0) = false) := by
   rcases hA with h | ⟨h, h2⟩
   ·exact .inl (by simpa using h)
   ·exact .inr ⟨by simpa using h, by simpa using h2⟩
  clear hA A0 A1 B0 B1 hz
  go_enter Tryz.func35, Tryz.ntmps35
  go_upto_region 1 with fail
  obtain ⟨W0, hW0⟩ : ∃ W0, W0 = ((w.alloc (Obj.cells #[Value.int IntKind.u64 (hiW A), Value.int IntKind.u64 (loW A)] 68)).alloc (Obj.cells #[Value.int IntKind.u64 (hiW B), Value.int IntKind.u64 (loW B)] 68)).alloc (Obj.cells #[Value.int IntKind.u64 0, Value.int IntKind.u64 0] 68) := ⟨_, rfl⟩
  rw [← hW0]
  have S0 := Lib.hid (GcdSt.start w A B W0 hW0)
  clear hW0
  go_cut [8] (fun s8 wx => wx = W0 ∧ s8 = .bool false)
  case first =>
   obtain ⟨⟨_, c0, c1⟩, _⟩ := S0.out
   rcases hA2 with g | ⟨g, g2⟩
   all_goals
    go_wp2_with fail
    go_meet
    exact ⟨rfl, rfl⟩
  case rest =>
  clear hA2
  obtain ⟨rfl, rfl⟩ := hcut
  go_wp2_with fail
  go_loopg [5] A.toNat (fun g s5 wx => ∃ k x y : Int, s5 = .int .i64 k ∧ g = x.toNat ∧ Hid (Gcd1 A B k x y) ∧ Hid (GcdSt w wx x y))
  case atStart => exact ⟨0, A, B, rfl, rfl, I0, S0⟩
  case round =>
   clear S0 I0
   obtain ⟨k, x, y, rfl, rfl, I, S⟩ := hrel
   obtain ⟨⟨_, c0, c1⟩, ⟨_, c2, c3⟩, _, ⟨c4, c5⟩, ⟨c6, c7⟩, _, _⟩ := S.out
   have k0 : 0 ≤ k := I.out.k0
   have kw : IntKind.i64.wrap (k + 1) = k + 1 := IntWalk.i64_in _ (by have := (I.out.small HB.out.1 HB.out.2).1; omega)
   have bx := and_one (loW_bd x).1 (loW_bd x).2
   have by' := and_one (loW_bd y).1 (loW_bd y).2
   rw [low_bit] at bx by'
   go_upto_region 4 with fail
   go_cut [19] (fun s19 wx => wx = wr ∧ s19 = .bool (decide (x % 2 = 0 ∧ y % 2 = 0)))
   case first =>
    by_cases hx : x % 2 = 0
    ·by_cases hy : y % 2 = 0
     ·go_wp2_with fail
      go_meet
      exact ⟨rfl, by simp [hx, hy]⟩
     ·have hy' : (y % 2 == 0) = false := by simpa using hy
      go_wp2_with fail
      go_meet
      exact ⟨rfl, by simp [hx, hy]⟩
    ·have hx' : (x % 2 == 0) = false := by simpa using hx
     go_wp2_with fail
     go_meet
     exact ⟨rfl, by simp [hx]⟩
   case rest =>
    obtain ⟨rfl, rfl⟩ := hcut
    by_cases hxy : x % 2 = 0 ∧ y % 2 = 0
    ·have I' := Lib.hid (I.out.half hxy.1 hxy.2)
     have hm : Hid ((x / 2).toNat < x.toNat) := by have := I.out.x0; show _ < _; omega
     have hd : decide (x % 2 = 0 ∧ y % 2 = 0) = true := by simpa using hxy
     rw [hd]
     have CX := fun w => Lib.hid (half_any x w (by have := I.out.x0; omega) (I.out.small HB.out.1 HB.out.2).2.1)
     have CY := fun w => Lib.hid (half_any y w (by have := I.out.y0; omega) (I.out.small HB.out.1 HB.out.2).2.2)
     clear bx by' hxy hd
     go_wp2_with fail
     go_region_with (go_at_call 72; (first | (with_reducible refine ((CX _).out).mono ?_) | (with_reducible refine ((CY _).out).mono ?_)); rintro e w1 ⟨rfl, hb⟩; have T1 := Lib.hid (GcdSt.on (by first | exact T1.out | exact T1.out.drew | exact T1.out.drew.drew | exact S.out | exact S.out.drew | exact S.out.drew.drew) hb); clear hb; obtain ⟨⟨_, t0, t1⟩, ⟨_, t2, t3⟩, _, ⟨t4, t5⟩, ⟨t6, t7⟩, _, _⟩ := T1.out)
     all_goals
      go_wp2_with fail
      go_roundg ((x / 2).toNat)
      case measure => exact hm.out
      case rel => exact ⟨k + 1, x / 2, y / 2, rfl, rfl, I', Lib.hid ((T1.out.setx _).sety _)⟩
    ·have hd : decide (x % 2 = 0 ∧ y % 2 = 0) = false := by simpa using hxy
     rw [hd]
     have J := Lib.hid (I.out.turn hxy)
     have hN := Lib.hid (I.out.gcd)
     have HX := Lib.hid (I.out.small HB.out.1 HB.out.2)
     clear bx by' hxy hd c0 c1 c2 c3 c4 c5 c6 c7
     obtain ⟨G, hG⟩ : ∃ G : Nat, Int.gcd x y = G := ⟨_, rfl⟩
     rw [hG] at J hN
     clear hG I kw
     go_wp2_with fail
     go_loopg [] (x + y).toNat (fun g wx => ∃ a b : Int, g = (a + b).toNat ∧ a < 340282366920938463463374607431768211456 ∧ b < 340282366920938463463374607431768211456 ∧ Hid (Gcd2 G a b) ∧ Hid (GcdSt w wx a b))
     case atStart => exact ⟨x, y, rfl, HX.out.2.1, HX.out.2.2, J, S⟩
     case round =>
      clear J S
      have kk := Lib.hid HX.out.1
      clear HX
      obtain ⟨a, b, rfl, a1, b1, J, S⟩ := hrel
      obtain ⟨⟨_, c0, c1⟩, ⟨_, c2, c3⟩, _, ⟨c4, c5⟩, ⟨c6, c7⟩, _, _⟩ := S.out
      go_upto_region 6 with fail
      go_cut [28] (fun s28 wx => wx = wr ∧ s28 = .bool (decide (¬ a = 0)))
      case first =>
       by_cases hz : a = 0
       ·have z0 : hiW a = 0 := by rw [hz]; decide
        have z1 : loW a = 0 := by rw [hz]; decide
        rw [z0] at c0
        rw [z1] at c1
        go_wp2_with fail
        go_meet
        exact ⟨rfl, by simp [hz]⟩
       ·have hA2 : (hiW a == 0) = false ∨ ((hiW a == 0) = true ∧ (loW a == 0) = false) := by
         rcases words_ne (x := a) (by have := J.out.x0; omega) a1 with h | ⟨h, h2⟩
         ·exact .inl (by simpa using h)
         ·exact .inr ⟨by simpa using h, by simpa using h2⟩
        rcases hA2 with g | ⟨g, g2⟩
        all_goals
         go_wp2_with fail
         go_meet
         exact ⟨rfl, by simp [hz]⟩
      case rest =>
       obtain ⟨rfl, rfl⟩ := hcut
       by_cases hz : a = 0
       ·have hd : decide (¬ a = 0) = false := by simp [hz]
        rw [hd]
        subst hz
        have hy := Lib.hid J.out.last
        have y0 := Lib.hid J.out.y0
        clear hd J c0 c1 c2 c3 c4 c5 c6 c7
        go_wp2_with fail
        go_loopg [5] k.toNat (fun g s5 wx => ∃ j z : Int, s5 = .int .i64 j ∧ 0 ≤ j ∧ j ≤ k ∧ g = j.toNat ∧ Hid ((Int.gcd A B : Int) = z * 2 ^ j.toNat) ∧ Hid (GcdSt w wx 0 z))
        case atStart => exact ⟨k, b, rfl, k0, by omega, rfl, by rw [hy.out]; exact hN, S⟩
        case round =>
         clear S
         obtain ⟨j, z, rfl, j0, j1, rfl, E, S⟩ := hrel
         obtain ⟨⟨_, c0, c1⟩, ⟨_, c2, c3⟩, ⟨_, c8, c9⟩, ⟨c4, c5⟩, ⟨c6, c7⟩, ⟨f8, f9⟩, _⟩ := S.out
         by_cases hj : 0 < j
         ·have CP := fun w => Lib.hid (refPlus_any z z w)
          have jw : IntKind.i64.wrap (j - 1) = j - 1 := IntWalk.i64_in _ (by have := kk.out; omega)
          have hj' : decide (0 < j) = true := by simpa using hj
          go_wp2_with (first | (go_at_call 75; (first | (with_reducible refine ((CP _).out).mono ?_)); rintro e w1 ⟨rfl, hb⟩; have T1 := Lib.hid (GcdSt.on (by first | exact T1.out | exact T1.out.drew | exact T1.out.drew.drew | exact S.out | exact S.out.drew | exact S.out.drew.drew) hb); clear hb; obtain ⟨⟨_, t0, t1⟩, ⟨_, t2, t3⟩, _, ⟨t4, t5⟩, ⟨t6, t7⟩, _, _⟩ := T1.out))
          go_roundg ((j - 1).toNat)
          case measure => omega
          case rel => exact ⟨j - 1, z + z, rfl, by omega, by omega, rfl, by rw [E.out, show j.toNat = (j - 1).toNat + 1 by omega, Int.pow_succ]; show _ = _; grind, Lib.hid (T1.out.sety _)⟩
         ·have hj' : decide (0 < j) = false := by simpa using hj
          have e0 : j = 0 := by omega
          subst e0
          have E2 : Hid (z = (Int.gcd A B : Int)) := by rw [E.out]; show _ = _; simp
          clear E
          go_wp2_with fail
          refine bodyPost_ret (by simp [results, Tryz.results35, go_sem, c8, c9]; try rfl) rfl ?_
          refine ⟨by rw [← E2.out], ?_⟩
          exact (S.out.2.2.2.2.2.2.setCell (by simp; omega) _).setCell (by simp; omega) _
       ·have hd : decide (¬ a = 0) = true := by simp [hz]
        rw [hd]
        have a0 : 0 < a := by have := J.out.x0; omega
        clear hd hz c0 c1 c2 c3 c4 c5 c6 c7
        go_wp2_with fail
        go_loopg [] a.toNat (fun g wx => ∃ c : Int, g = c.toNat ∧ 0 < c ∧ c ≤ a ∧ Hid (Gcd2 G c b) ∧ Hid (GcdSt w wx c b))
        case atStart => exact ⟨a, rfl, a0, by omega, J, S⟩
        case round =>
         clear J S
         obtain ⟨c, rfl, cc0, cc1, J, S⟩ := hrel
         obtain ⟨⟨_, c0, c1⟩, ⟨_, c2, c3⟩, _, ⟨c4, c5⟩, ⟨c6, c7⟩, _, _⟩ := S.out
         have bx := and_one (loW_bd c).1 (loW_bd c).2
         rw [low_bit] at bx
         by_cases hx : c % 2 = 0
         ·have CX := fun w => Lib.hid (half_any c w (by omega) (by omega))
          have CY := CX
          go_wp2_with (first | (go_at_call 72; (first | (with_reducible refine ((CX _).out).mono ?_) | (with_reducible refine ((CY _).out).mono ?_)); rintro e w1 ⟨rfl, hb⟩; have T1 := Lib.hid (GcdSt.on (by first | exact T1.out | exact T1.out.drew | exact T1.out.drew.drew | exact S.out | exact S.out.drew | exact S.out.drew.drew) hb); clear hb; obtain ⟨⟨_, t0, t1⟩, ⟨_, t2, t3⟩, _, ⟨t4, t5⟩, ⟨t6, t7⟩, _, _⟩ := T1.out))
          go_roundg ((c / 2).toNat)
          case measure => omega
          case rel => exact ⟨c / 2, rfl, by omega, by omega, Lib.hid (J.out.hx hx), Lib.hid (T1.out.setx _)⟩
         ·have hx' : (c % 2 == 0) = false := by simpa using hx
          have hx2 : c % 2 = 1 := by omega
          have HX := Lib.hid hx2
          clear hx hx2
          go_wp2_with fail
          clear hx' bx c0 c1 c2 c3 c4 c5 c6 c7
          go_loopg [] b.toNat (fun g wx => ∃ d : Int, g = d.toNat ∧ d ≤ b ∧ Hid (Gcd2 G c d) ∧ Hid (GcdSt w wx c d))
          case atStart => exact ⟨b, rfl, by omega, J, S⟩
          case round =>
           clear J S
           obtain ⟨d, rfl, dd1, J, S⟩ := hrel
           obtain ⟨⟨_, c0, c1⟩, ⟨_, c2, c3⟩, _, ⟨c4, c5⟩, ⟨c6, c7⟩, _, _⟩ := S.out
           have dd0 := J.out.y0
           have bx := and_one (loW_bd d).1 (loW_bd d).2
           rw [low_bit] at bx
           by_cases hy : d % 2 = 0
           ·have CX := fun w => Lib.hid (half_any d w (by omega) (by omega))
            have CY := CX
            go_wp2_with (first | (go_at_call 72; (first | (with_reducible refine ((CX _).out).mono ?_) | (with_reducible refine ((CY _).out).mono ?_)); rintro e w1 ⟨rfl, hb⟩; have T1 := Lib.hid (GcdSt.on (by first | exact T1.out | exact T1.out.drew | exact T1.out.drew.drew | exact S.out | exact S.out.drew | exact S.out.drew.drew) hb); clear hb; obtain ⟨⟨_, t0, t1⟩, ⟨_, t2, t3⟩, _, ⟨t4, t5⟩, ⟨t6, t7⟩, _, _⟩ := T1.out))
            go_roundg ((d / 2).toNat)
            case measure => omega
            case rel => exact ⟨d / 2, rfl, by omega, Lib.hid (J.out.hy HX.out hy), Lib.hid (T1.out.sety _)⟩
           ·have hy' : (d % 2 == 0) = false := by simpa using hy
            have CL := fun w => Lib.hid (less_any c d w (by omega) (by omega) (by omega) (by omega))
            by_cases hlt : c < d
            ·have hl : decide (c < d) = true := by simpa using hlt
             have CM := fun w => Lib.hid (refMinus_any d c w)
             simp only [hl] at CL
             have J' := Lib.hid ((J.out.swap cc0).minus (Int.le_of_lt hlt))
             clear hy hlt hl
             go_wp2_with (first | (go_at_call 73; (first | (with_reducible refine ((CL _).out).mono ?_)); rintro e w1 ⟨rfl, hb⟩; have T1 := Lib.hid (GcdSt.on (by first | exact T1.out | exact T1.out.drew | exact T1.out.drew.drew | exact S.out | exact S.out.drew | exact S.out.drew.drew) hb); clear hb; obtain ⟨⟨_, t0, t1⟩, ⟨_, t2, t3⟩, _, ⟨t4, t5⟩, ⟨t6, t7⟩, _, _⟩ := T1.out) | (go_at_call 74; (first | (with_reducible refine ((CM _).out).mono ?_)); rintro e w1 ⟨rfl, hb⟩; have T1 := Lib.hid (GcdSt.on (by first | exact (T1.out.setx _).sety _ | exact T1.out) hb); clear hb; obtain ⟨⟨_, t0, t1⟩, ⟨_, t2, t3⟩, _, ⟨t4, t5⟩, ⟨t6, t7⟩, _, _⟩ := T1.out))
             go_roundg ((d - c + c).toNat)
             case measure => omega
             case rel => exact ⟨d - c, c, rfl, by omega, by omega, J', Lib.hid (T1.out.setx _)⟩
            ·have hl : decide (c < d) = false := by simpa using hlt
             have CM := fun w => Lib.hid (refMinus_any c d w)
             simp only [hl] at CL
             have J' := Lib.hid (J.out.minus (Int.not_lt.1 hlt))
             clear hy hlt hl
             go_wp2_with (first | (go_at_call 73; (first | (with_reducible refine ((CL _).out).mono ?_)); rintro e w1 ⟨rfl, hb⟩; have T1 := Lib.hid (GcdSt.on (by first | exact T1.out | exact T1.out.drew | exact T1.out.drew.drew | exact S.out | exact S.out.drew | exact S.out.drew.drew) hb); clear hb; obtain ⟨⟨_, t0, t1⟩, ⟨_, t2, t3⟩, _, ⟨t4, t5⟩, ⟨t6, t7⟩, _, _⟩ := T1.out) | (go_at_call 74; (first | (with_reducible refine ((CM _).out).mono ?_)); rintro e w1 ⟨rfl, hb⟩; have T1 := Lib.hid (GcdSt.on (by first | exact T1.out) hb); clear hb; obtain ⟨⟨_, t0, t1⟩, ⟨_, t2, t3⟩, _, ⟨t4, t5⟩, ⟨t6, t7⟩, _, _⟩ := T1.out))
             go_roundg ((c - d + d).toNat)
             case measure => omega
             case rel => exact ⟨c - d, d, rfl, by omega, by omega, J', Lib.hid (T1.out.setx _)⟩

end Go.Proofs.YtggpdhdbeokkcaaGreat
