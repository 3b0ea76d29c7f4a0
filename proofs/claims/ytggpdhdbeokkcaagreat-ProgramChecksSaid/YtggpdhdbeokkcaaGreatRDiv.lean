/- math/bits.Div64 and Rem64 as this program has them: the quotient and the remainder of two words by one. -/
import Derived.Test.YtggpdhdbeokkcaaGreatRProd
import Derived.Lib.ItoaNum
namespace Go.Proofs.YtggpdhdbeokkcaaGreat
set_option linter.unusedVariables false
open Go.RowKit Go.Shelf

theorem ret_u2 {a b c d : Int} (h : a = c) (h' : b = d) : Ending.returned (.tuple #[.int .u64 a, .int .u64 b]) = .returned (.tuple #[.int .u64 c, .int .u64 d]) := by rw [h, h']

set_option maxHeartbeats 1000000 in
theorem div64_zero (lo y : Int) (w : World) (l0 : 0 ≤ lo) (l1 : lo < 18446744073709551616) (y0 : 0 < y) (y1 : y < 18446744073709551616) :
  Calls Tryz.prog 119 #[.int .u64 0, .int .u64 lo, .int .u64 y] w fun e w' => e = .returned (.tuple #[.int .u64 (lo / y), .int .u64 (lo % y)]) ∧ ∃ k, w' = w.drewN k := by
 have h1 : lo.tdiv y = lo / y := Int.tdiv_eq_ediv_of_nonneg l0
 have h2 : lo.tmod y = lo % y := Int.tmod_eq_emod_of_nonneg l0
 have q0 : 0 ≤ lo / y := Int.ediv_nonneg l0 (by omega)
 have q1 : lo / y < 18446744073709551616 := Int.lt_of_le_of_lt (Int.ediv_le_self _ l0) l1
 have hne : (y == 0) = false := by simp; omega
 have hle : decide (y ≤ 0) = false := by simp; omega
 go_enter Tryz.func119, Tryz.ntmps119
 go_wp2
 go_quiet (fail)
 go_wp2
 go_ret2
 exact ⟨ret_u2 (by go_arith) rfl, nq, rfl⟩

/-- The low half of a word; two words of which one has the low bits alone. -/
theorem and_low {Y : Int} (h0 : 0 ≤ Y) (h1 : Y < 18446744073709551616) : bits .and .u64 Y 4294967295 = Y % 4294967296 := by
 obtain ⟨n, rfl⟩ := Int.eq_ofNat_of_zero_le h0
 rw [Mul64.maskN n (by omega)]
 omega
theorem or_add {a p b : Int} {k : Nat} (hp : p = 2 ^ k) (a0 : 0 ≤ a) (b0 : 0 ≤ b) (hb : b < p) (h : a * p + b < 18446744073709551616) : bits .or .u64 (a * p) b = a * p + b := by
 obtain ⟨n, rfl⟩ := Int.eq_ofNat_of_zero_le a0
 obtain ⟨m, rfl⟩ := Int.eq_ofNat_of_zero_le b0
 have hp' : p = ((2 ^ k : Nat) : Int) := by rw [hp]; simp
 rw [hp'] at hb h ⊢
 rw [← Int.natCast_mul]
 have e : n * 2 ^ k ||| m = n * 2 ^ k + m := by
  rw [Nat.mul_comm, ← Nat.two_pow_add_eq_or_of_lt (by omega)]
 rw [bits_or_u64_nat _ _ (by omega) (by omega), e]
 omega

/-- What shifts y to the left: its leading zeros. -/
theorem lz_norm {y : Int} (h0 : 0 < y) (h1 : y < 18446744073709551616) : ∃ s : Int, s = 64 - (Lib.bitLen y.toNat : Int) ∧ 0 ≤ s ∧ s < 64 ∧ 9223372036854775808 ≤ y * 2 ^ s.toNat ∧ y * 2 ^ s.toNat < 18446744073709551616 := by
 obtain ⟨n, rfl⟩ := Int.eq_ofNat_of_zero_le (show 0 ≤ y by omega)
 obtain ⟨a, b, c⟩ := Lib.bitLenAux_bounds 64 n (by simp; omega) (by omega)
 have hb : Lib.bitLen ((n : Int)).toNat = Lib.bitLenAux 64 n := rfl
 rw [hb]
 generalize Lib.bitLenAux 64 n = L at *
 have hL : L ≤ 64 := by
  rcases Nat.lt_or_ge 64 L with h | h
  ·have := Nat.pow_le_pow_right (n := 2) (by omega) (show 64 ≤ L - 1 by omega)
   have e : (2 : Nat) ^ 64 = 18446744073709551616 := by decide
   omega
  ·exact h
 refine ⟨64 - (L : Int), rfl, by omega, by omega, ?_, ?_⟩
 ·have e : (64 - (L : Int)).toNat = 64 - L := by omega
  have m := Nat.mul_le_mul_right (2 ^ (64 - L)) b
  rw [← Nat.pow_add, show L - 1 + (64 - L) = 63 by omega] at m
  have e2 : (2 : Nat) ^ 63 = 9223372036854775808 := by decide
  have e3 : (n : Int) * 2 ^ (64 - L) = ((n * 2 ^ (64 - L) : Nat) : Int) := by simp
  rw [e, e3]
  omega
 ·have e : (64 - (L : Int)).toNat = 64 - L := by omega
  have m := Nat.mul_lt_mul_of_pos_right c (show 0 < 2 ^ (64 - L) from Nat.two_pow_pos _)
  rw [← Nat.pow_add, show L + (64 - L) = 64 by omega] at m
  have e2 : (2 : Nat) ^ 64 = 18446744073709551616 := by decide
  have e3 : (n : Int) * 2 ^ (64 - L) = ((n * 2 ^ (64 - L) : Nat) : Int) := by simp
  rw [e, e3]
  omega

theorem wrap_in {x : Int} (h0 : 0 ≤ x) (h1 : x < 18446744073709551616) : IntKind.u64.wrap x = x := by rw [IntKind.wrap_u64]; omega

/-- What is left for the second digit: reckoned modulo 2^64. -/
theorem rest_eq {v u d q R : Int} (D : Digit v u d q) (v1 : v < 18446744073709551616) (hR : R = u * 4294967296 + d - q * v) : IntKind.u64.wrap (IntKind.u64.wrap (IntKind.u64.wrap (u * 4294967296) + d) - IntKind.u64.wrap (q * v)) = R ∧ 0 ≤ R ∧ R < v := by
 have a := D.lo
 have b := D.hi
 simp only [IntKind.wrap_u64]
 omega

set_option maxRecDepth 100000 in
set_option maxHeartbeats 2000000 in
theorem div64_pos (hi lo y s : Int) (w : World) (h0 : 0 < hi) (h1 : hi < y) (l0 : 0 ≤ lo) (l1 : lo < 18446744073709551616) (y1 : y < 18446744073709551616)
  (s0 : 0 ≤ s) (s1 : s < 64) (hY0 : Hid (9223372036854775808 ≤ y * 2 ^ s.toNat)) (hY1 : Hid (y * 2 ^ s.toNat < 18446744073709551616)) (hlz : Hid (∀ w, Calls Tryz.prog 128 #[.int .u64 y] w fun e w' => e = .returned (.int .i64 s) ∧ w = w')) :
  Calls Tryz.prog 119 #[.int .u64 hi, .int .u64 lo, .int .u64 y] w fun e w' => e = .returned (.tuple #[.int .u64 ((hi * 18446744073709551616 + lo) / y), .int .u64 ((hi * 18446744073709551616 + lo) % y)]) ∧ ∃ k, w' = w.drewN k := by
 obtain ⟨p, hp⟩ : ∃ p : Int, (2 : Int) ^ s.toNat = p := ⟨_, rfl⟩
 obtain ⟨p', hp'⟩ : ∃ p' : Int, (2 : Int) ^ (64 - s).toNat = p' := ⟨_, rfl⟩
 have p0 : 0 < p := by rw [← hp]; exact Int.pow_pos (by decide)
 have hpp : p * p' = 18446744073709551616 := by
  rw [← hp, ← hp', ← Int.pow_add, show s.toNat + (64 - s).toNat = 64 by omega]; rfl
 have hY0' := hY0.out
 have hY1' := hY1.out
 rw [hp] at hY0' hY1'
 obtain ⟨n0, n1, n2⟩ := norm_lt (hi := hi) (lo := lo) (y := y) p0 hpp h1 l0 l1
 have nE := norm_eq (hi := hi) (lo := lo) p0 hpp
 obtain ⟨Y, hY⟩ : ∃ Y, y * p = Y := ⟨_, rfl⟩
 obtain ⟨U, hU⟩ : ∃ U, hi * p + lo / p' = U := ⟨_, rfl⟩
 obtain ⟨D, hD⟩ : ∃ D, lo * p % 18446744073709551616 = D := ⟨_, rfl⟩
 have hhp : 0 ≤ hi * p := Int.mul_nonneg (by omega) (by omega)
 rw [hY] at hY0' hY1' n2
 rw [hU] at nE n2
 rw [hD] at nE
 have hD0 : 0 ≤ D := by omega
 have hD1 : D < 18446744073709551616 := by omega
 have e1 : IntKind.u64.wrap (y * 2 ^ s.toNat) = Y := by rw [hp, hY]; exact wrap_in (by omega) hY1'
 have e4 : bits .or .u64 (IntKind.u64.wrap (hi * 2 ^ s.toNat)) (lo / 2 ^ (64 - s).toNat) = U := by
  rw [hp', hp, wrap_in hhp (by omega), or_add hp.symm (by omega) n0 n1 (by omega), hU]
 have e5 : IntKind.u64.wrap (lo * 2 ^ s.toNat) = D := by rw [hp, IntKind.wrap_u64, hD]
 obtain ⟨v1, e2⟩ : ∃ v1, Y / 4294967296 = v1 := ⟨_, rfl⟩
 obtain ⟨v0, e3'⟩ : ∃ v0, Y % 4294967296 = v0 := ⟨_, rfl⟩
 obtain ⟨d1, e6⟩ : ∃ d1, D / 4294967296 = d1 := ⟨_, rfl⟩
 obtain ⟨d0, e7'⟩ : ∃ d0, D % 4294967296 = d0 := ⟨_, rfl⟩
 have e3 : bits .and .u64 Y 4294967295 = v0 := by rw [and_low (by omega) hY1', e3']
 have e7 : bits .and .u64 D 4294967295 = d0 := by rw [and_low hD0 hD1, e7']
 have hv1 : 2147483648 ≤ v1 := by omega
 have hv2 : v1 < 4294967296 := by omega
 have hv3 : 0 ≤ v0 := by omega
 have hv4 : v0 < 4294967296 := by omega
 have hd1 : 0 ≤ d1 := by omega
 have hd2 : d1 < 4294967296 := by omega
 have hd3 : 0 ≤ d0 := by omega
 have hd4 : d0 < 4294967296 := by omega
 have hYv : Y = v1 * 4294967296 + v0 := by omega
 have hDd : D = d1 * 4294967296 + d0 := by omega
 have hU0 : 0 ≤ U := by omega
 have G0 := guess_start hv1 hv3 hv4 hU0 (by omega) hd1 hd2
 obtain ⟨q, hq⟩ : ∃ q, U / v1 = q := ⟨_, rfl⟩
 rw [hq] at G0
 obtain ⟨r, hr⟩ : ∃ r, U - q * v1 = r := ⟨_, rfl⟩
 rw [hr] at G0
 obtain ⟨G, Gr⟩ := G0
 have hqv : 0 ≤ q * v1 := Int.mul_nonneg G.q0 (by omega)
 have e8 : IntKind.u64.wrap (U.tdiv v1) = q := by rw [Int.tdiv_eq_ediv_of_nonneg hU0, hq]; exact wrap_in G.q0 (by have := G.q1; omega)
 have e9 : IntKind.u64.wrap (U - IntKind.u64.wrap (q * v1)) = r := by
  have := G.r0
  rw [wrap_in hqv (by omega), hr, wrap_in G.r0 (by omega)]
 have hne : (y == 0) = false := by simp; omega
 have hle : decide (y ≤ hi) = false := by simp; omega
 have hn0 : (hi == 0) = false := by simp; omega
 have HY := Lib.hid hYv
 have HYl := Lib.hid hY1'
 have HDd := Lib.hid hDd
 have HnE := Lib.hid nE
 have Hyp := Lib.hid hY
 have HUl := Lib.hid n2
 have Hpp := Lib.hid hp
 have HG := Lib.hid G
 have HUY := Lib.hid (show U < 18446744073709551616 by omega)
 have HU0 := Lib.hid hU0
 clear hp hp' hpp hY hU hD nE n0 n1 n2 hhp hY0' hY1' hYv hDd hD0 hD1 e3' e7' G hq hr hqv hU0
 go_enter Tryz.func119, Tryz.ntmps119
 go_wp2_with (first
  | (go_at_call 128; (with_reducible refine (hlz.out _).mono ?_); rintro e w' ⟨rfl, rfl⟩))
 have He1 := Lib.hid e1
 clear e1 e2 e3 e4 e5 e6 e7 e8 e9
 have HU : Hid (U < v1 * 4294967296 + v0) := by rw [← HY.out]; exact HUl.out
 have HY1 : Hid (Y < 18446744073709551616) := by have := Hyp.out; exact HYl.out
 -- LOOPS
 go_loop [15, 16] (fun a b => ∃ q r : Int, a = .int .u64 q ∧ b = .int .u64 r ∧ r < 4294967296 ∧ Guess v1 v0 U d1 q r) (fun a _ => (intOf a).toNat)
 case atStart => exact ⟨q, r, rfl, rfl, by omega, HG.out⟩
 case round =>
  clear HG
  obtain ⟨q, r, rfl, rfl, hr, G⟩ := hrel
  have g0 := G.q0
  have g1 := G.q1
  have g2 := G.r0
  have HG := Lib.hid G
  clear G
  obtain ⟨P, eP⟩ : ∃ P, q * v0 = P := ⟨_, rfl⟩
  have K : (4294967296 ≤ q ∨ (q < 4294967296 ∧ 4294967296 * r + d1 < P)) ∨ (q < 4294967296 ∧ P ≤ 4294967296 * r + d1) := by omega
  rcases K with (hq | ⟨hq, hp⟩) | ⟨hq, hp⟩
  ·clear eP
   obtain ⟨k1, G'⟩ := guess_down hv1 hv3 HU0.out HU.out hd1 hd2 HG.out (.inl hq)
   obtain ⟨qa, hq'⟩ : ∃ x, q - 1 = x := ⟨_, rfl⟩
   obtain ⟨r', hr'⟩ : ∃ x, r + v1 = x := ⟨_, rfl⟩
   rw [hq', hr'] at G'
   have c1 : 0 ≤ qa := G'.q0
   have c2 : qa < q := by omega
   have c3 : 0 ≤ r' := G'.r0
   have HG' := Lib.hid G'
   clear G' HG
   by_cases hb : 4294967296 ≤ r'
   ·have Dg : Hid (Digit Y U d1 qa) := by rw [HY.out]; exact guess_break hv1 hv3 hv4 HU.out hd1 hd2 HG'.out (by omega) hb
    have Hx := Lib.hid (And.intro c2 hr')
    clear HG'
    have Dg1 := Dg
    clear Dg
    obtain ⟨R, hR⟩ : ∃ R, U * 4294967296 + d1 - qa * Y = R := ⟨_, rfl⟩
    obtain ⟨f1, R0, R1⟩ := rest_eq Dg1.out HY1.out hR.symm
    obtain ⟨G0, Gr⟩ := guess_start hv1 hv3 hv4 R0 (by rw [← HY.out]; exact R1) hd3 hd4
    obtain ⟨t, ht⟩ : ∃ t, R / v1 = t := ⟨_, rfl⟩
    rw [ht] at G0 Gr
    obtain ⟨u, hu⟩ : ∃ u, R - t * v1 = u := ⟨_, rfl⟩
    rw [hu] at G0 Gr
    have tv : 0 ≤ t * v1 := Int.mul_nonneg G0.q0 (by omega)
    have hR1 : R < 18446744073709551616 := by have := HY1.out; omega
    have f8 : IntKind.u64.wrap (R.tdiv v1) = t := by rw [Int.tdiv_eq_ediv_of_nonneg R0, ht]; exact wrap_in G0.q0 (by have := G0.q1; omega)
    have f9 : IntKind.u64.wrap (R - IntKind.u64.wrap (t * v1)) = u := by
     have := G0.r0
     rw [wrap_in tv (by omega), hu, wrap_in G0.r0 (by omega)]
    have HR0 := Lib.hid R0
    have HR1 : Hid (R < v1 * 4294967296 + v0) := by rw [← HY.out]; exact R1
    have HR := Lib.hid hR
    have HG := Lib.hid G0
    clear R0 R1 hR G0 ht hu tv hR1
    go_wp2
    have X : True := trivial
    clear f1 f8 f9 hq' Hx
    go_loop [18, 16] (fun a b => ∃ q r : Int, a = .int .u64 q ∧ b = .int .u64 r ∧ r < 4294967296 ∧ Guess v1 v0 R d0 q r) (fun a _ => (intOf a).toNat)
    case atStart => exact ⟨t, u, rfl, rfl, by omega, HG.out⟩
    case round =>
     clear HG
     obtain ⟨q, r, rfl, rfl, hr, G⟩ := hrel
     have g0 := G.q0
     have g1 := G.q1
     have g2 := G.r0
     have HG := Lib.hid G
     clear G
     obtain ⟨P, eP⟩ : ∃ P, q * v0 = P := ⟨_, rfl⟩
     have K : (4294967296 ≤ q ∨ (q < 4294967296 ∧ 4294967296 * r + d0 < P)) ∨ (q < 4294967296 ∧ P ≤ 4294967296 * r + d0) := by omega
     rcases K with (hq | ⟨hq, hp⟩) | ⟨hq, hp⟩
     ·clear eP
      obtain ⟨k1, G'⟩ := guess_down hv1 hv3 HR0.out HR1.out hd3 hd4 HG.out (.inl hq)
      obtain ⟨qb, hq'⟩ : ∃ x, q - 1 = x := ⟨_, rfl⟩
      obtain ⟨r', hr'⟩ : ∃ x, r + v1 = x := ⟨_, rfl⟩
      rw [hq', hr'] at G'
      have c1 : 0 ≤ qb := G'.q0
      have c2 : qb < q := by omega
      have c3 : 0 ≤ r' := G'.r0
      have HG' := Lib.hid G'
      clear G' HG
      by_cases hb : 4294967296 ≤ r'
      ·have Dg : Hid (Digit Y R d0 qb) := by rw [HY.out]; exact guess_break hv1 hv3 hv4 HR1.out hd3 hd4 HG'.out (by omega) hb
       have Hx := Lib.hid (And.intro c2 hr')
       clear HG'
       have Dg2 := Dg
       clear Dg
       obtain ⟨S, hS⟩ : ∃ S, R * 4294967296 + d0 - qb * Y = S := ⟨_, rfl⟩
       obtain ⟨f1, S0, S1⟩ := rest_eq Dg2.out HY1.out hS.symm
       obtain ⟨Q, hQ⟩ : ∃ Q, qa * 4294967296 + qb = Q := ⟨_, rfl⟩
       have f2 : IntKind.u64.wrap (IntKind.u64.wrap (qa * 4294967296) + qb) = Q := by
        have a0 := Dg1.out.q0
        have a1 := Dg1.out.q1
        have a2 := Dg2.out.q0
        have a3 := Dg2.out.q1
        rw [wrap_in (x := qa * 4294967296) (by omega) (by omega), wrap_in (by omega) (by omega), hQ]
       have HQ : Hid (qa * 4294967296 + qb = Q ∧ 0 ≤ qa * 4294967296 + qb ∧ qa * 4294967296 + qb < 18446744073709551616) := by
        have a0 := Dg1.out.q0
        have a1 := Dg1.out.q1
        have a2 := Dg2.out.q0
        have a3 := Dg2.out.q1
        exact ⟨hQ, by omega, by omega⟩
       have Z : Hid (Q = (hi * 18446744073709551616 + lo) / y ∧ S / p = (hi * 18446744073709551616 + lo) % y) := by
        refine norm_end p0 (by omega) ?_ S0 (by rw [Hyp.out]; exact S1)
        have a := HnE.out
        have b := HDd.out
        have c := HR.out
        rw [Hyp.out, a, b]
        grind
       have HS := Lib.hid (And.intro S0 S1)
       clear hS hQ S0 S1
       go_wp2
       go_ret2
       exact ⟨ret_u2 (by first | exact Z.out.1 | (rw [HQ.out.1]; exact Z.out.1) | (rw [wrap_in HQ.out.2.1 HQ.out.2.2, HQ.out.1]; exact Z.out.1)) (by rw [Hpp.out]; exact Z.out.2), 0, rfl⟩
      ·have Hb : r' < 4294967296 := by omega
       go_wp2
       go_round
       case rel => exact ⟨qb, r', rfl, rfl, Hb, HG'.out⟩
       case measure => simp [intOf]; omega
     ·obtain ⟨b0, b1⟩ := guess_prod hv3 hv4 g0 hq
      have eW : IntKind.u64.wrap (q * v0) = P := by rw [wrap_in b0 b1, eP]
      rw [eP] at b0 b1
      have Hp := Lib.hid (show 4294967296 ≤ q ∨ 4294967296 * r + d0 < q * v0 by rw [eP]; exact .inr hp)
      clear eP
      obtain ⟨k1, G'⟩ := guess_down hv1 hv3 HR0.out HR1.out hd3 hd4 HG.out Hp.out
      obtain ⟨qb, hq'⟩ : ∃ x, q - 1 = x := ⟨_, rfl⟩
      obtain ⟨r', hr'⟩ : ∃ x, r + v1 = x := ⟨_, rfl⟩
      rw [hq', hr'] at G'
      have c1 : 0 ≤ qb := G'.q0
      have c2 : qb < q := by omega
      have c3 : 0 ≤ r' := G'.r0
      have HG' := Lib.hid G'
      clear G' HG
      by_cases hb : 4294967296 ≤ r'
      ·have Dg : Hid (Digit Y R d0 qb) := by rw [HY.out]; exact guess_break hv1 hv3 hv4 HR1.out hd3 hd4 HG'.out (by omega) hb
       have Hx := Lib.hid (And.intro c2 hr')
       clear HG'
       have Dg2 := Dg
       clear Dg
       obtain ⟨S, hS⟩ : ∃ S, R * 4294967296 + d0 - qb * Y = S := ⟨_, rfl⟩
       obtain ⟨f1, S0, S1⟩ := rest_eq Dg2.out HY1.out hS.symm
       obtain ⟨Q, hQ⟩ : ∃ Q, qa * 4294967296 + qb = Q := ⟨_, rfl⟩
       have f2 : IntKind.u64.wrap (IntKind.u64.wrap (qa * 4294967296) + qb) = Q := by
        have a0 := Dg1.out.q0
        have a1 := Dg1.out.q1
        have a2 := Dg2.out.q0
        have a3 := Dg2.out.q1
        rw [wrap_in (x := qa * 4294967296) (by omega) (by omega), wrap_in (by omega) (by omega), hQ]
       have HQ : Hid (qa * 4294967296 + qb = Q ∧ 0 ≤ qa * 4294967296 + qb ∧ qa * 4294967296 + qb < 18446744073709551616) := by
        have a0 := Dg1.out.q0
        have a1 := Dg1.out.q1
        have a2 := Dg2.out.q0
        have a3 := Dg2.out.q1
        exact ⟨hQ, by omega, by omega⟩
       have Z : Hid (Q = (hi * 18446744073709551616 + lo) / y ∧ S / p = (hi * 18446744073709551616 + lo) % y) := by
        refine norm_end p0 (by omega) ?_ S0 (by rw [Hyp.out]; exact S1)
        have a := HnE.out
        have b := HDd.out
        have c := HR.out
        rw [Hyp.out, a, b]
        grind
       have HS := Lib.hid (And.intro S0 S1)
       clear hS hQ S0 S1
       go_wp2
       go_ret2
       exact ⟨ret_u2 (by first | exact Z.out.1 | (rw [HQ.out.1]; exact Z.out.1) | (rw [wrap_in HQ.out.2.1 HQ.out.2.2, HQ.out.1]; exact Z.out.1)) (by rw [Hpp.out]; exact Z.out.2), 0, rfl⟩
      ·have Hb : r' < 4294967296 := by omega
       go_wp2
       go_round
       case rel => exact ⟨qb, r', rfl, rfl, Hb, HG'.out⟩
       case measure => simp [intOf]; omega
     ·obtain ⟨b0, b1⟩ := guess_prod hv3 hv4 g0 hq
      have eW : IntKind.u64.wrap (q * v0) = P := by rw [wrap_in b0 b1, eP]
      rw [eP] at b0 b1
      have Dg : Hid (Digit Y R d0 q) := by rw [HY.out]; exact guess_end hv1 hv3 HR1.out hd4 HG.out (by rw [eP]; exact hp)
      clear eP HG
      obtain ⟨qb, rfl⟩ : ∃ x, x = q := ⟨q, rfl⟩
      have Dg2 := Dg
      clear Dg
      obtain ⟨S, hS⟩ : ∃ S, R * 4294967296 + d0 - qb * Y = S := ⟨_, rfl⟩
      obtain ⟨f1, S0, S1⟩ := rest_eq Dg2.out HY1.out hS.symm
      obtain ⟨Q, hQ⟩ : ∃ Q, qa * 4294967296 + qb = Q := ⟨_, rfl⟩
      have f2 : IntKind.u64.wrap (IntKind.u64.wrap (qa * 4294967296) + qb) = Q := by
       have a0 := Dg1.out.q0
       have a1 := Dg1.out.q1
       have a2 := Dg2.out.q0
       have a3 := Dg2.out.q1
       rw [wrap_in (x := qa * 4294967296) (by omega) (by omega), wrap_in (by omega) (by omega), hQ]
      have HQ : Hid (qa * 4294967296 + qb = Q ∧ 0 ≤ qa * 4294967296 + qb ∧ qa * 4294967296 + qb < 18446744073709551616) := by
       have a0 := Dg1.out.q0
       have a1 := Dg1.out.q1
       have a2 := Dg2.out.q0
       have a3 := Dg2.out.q1
       exact ⟨hQ, by omega, by omega⟩
      have Z : Hid (Q = (hi * 18446744073709551616 + lo) / y ∧ S / p = (hi * 18446744073709551616 + lo) % y) := by
       refine norm_end p0 (by omega) ?_ S0 (by rw [Hyp.out]; exact S1)
       have a := HnE.out
       have b := HDd.out
       have c := HR.out
       rw [Hyp.out, a, b]
       grind
      have HS := Lib.hid (And.intro S0 S1)
      clear hS hQ S0 S1
      go_wp2
      go_ret2
      exact ⟨ret_u2 (by first | exact Z.out.1 | (rw [HQ.out.1]; exact Z.out.1) | (rw [wrap_in HQ.out.2.1 HQ.out.2.2, HQ.out.1]; exact Z.out.1)) (by rw [Hpp.out]; exact Z.out.2), 0, rfl⟩
   ·have Hb : r' < 4294967296 := by omega
    go_wp2
    go_round
    case rel => exact ⟨qa, r', rfl, rfl, Hb, HG'.out⟩
    case measure => simp [intOf]; omega
  ·obtain ⟨b0, b1⟩ := guess_prod hv3 hv4 g0 hq
   have eW : IntKind.u64.wrap (q * v0) = P := by rw [wrap_in b0 b1, eP]
   rw [eP] at b0 b1
   have Hp := Lib.hid (show 4294967296 ≤ q ∨ 4294967296 * r + d1 < q * v0 by rw [eP]; exact .inr hp)
   clear eP
   obtain ⟨k1, G'⟩ := guess_down hv1 hv3 HU0.out HU.out hd1 hd2 HG.out Hp.out
   obtain ⟨qa, hq'⟩ : ∃ x, q - 1 = x := ⟨_, rfl⟩
   obtain ⟨r', hr'⟩ : ∃ x, r + v1 = x := ⟨_, rfl⟩
   rw [hq', hr'] at G'
   have c1 : 0 ≤ qa := G'.q0
   have c2 : qa < q := by omega
   have c3 : 0 ≤ r' := G'.r0
   have HG' := Lib.hid G'
   clear G' HG
   by_cases hb : 4294967296 ≤ r'
   ·have Dg : Hid (Digit Y U d1 qa) := by rw [HY.out]; exact guess_break hv1 hv3 hv4 HU.out hd1 hd2 HG'.out (by omega) hb
    have Hx := Lib.hid (And.intro c2 hr')
    clear HG'
    have Dg1 := Dg
    clear Dg
    obtain ⟨R, hR⟩ : ∃ R, U * 4294967296 + d1 - qa * Y = R := ⟨_, rfl⟩
    obtain ⟨f1, R0, R1⟩ := rest_eq Dg1.out HY1.out hR.symm
    obtain ⟨G0, Gr⟩ := guess_start hv1 hv3 hv4 R0 (by rw [← HY.out]; exact R1) hd3 hd4
    obtain ⟨t, ht⟩ : ∃ t, R / v1 = t := ⟨_, rfl⟩
    rw [ht] at G0 Gr
    obtain ⟨u, hu⟩ : ∃ u, R - t * v1 = u := ⟨_, rfl⟩
    rw [hu] at G0 Gr
    have tv : 0 ≤ t * v1 := Int.mul_nonneg G0.q0 (by omega)
    have hR1 : R < 18446744073709551616 := by have := HY1.out; omega
    have f8 : IntKind.u64.wrap (R.tdiv v1) = t := by rw [Int.tdiv_eq_ediv_of_nonneg R0, ht]; exact wrap_in G0.q0 (by have := G0.q1; omega)
    have f9 : IntKind.u64.wrap (R - IntKind.u64.wrap (t * v1)) = u := by
     have := G0.r0
     rw [wrap_in tv (by omega), hu, wrap_in G0.r0 (by omega)]
    have HR0 := Lib.hid R0
    have HR1 : Hid (R < v1 * 4294967296 + v0) := by rw [← HY.out]; exact R1
    have HR := Lib.hid hR
    have HG := Lib.hid G0
    clear R0 R1 hR G0 ht hu tv hR1
    go_wp2
    have X : True := trivial
    clear f1 f8 f9 hq' Hx
    go_loop [18, 16] (fun a b => ∃ q r : Int, a = .int .u64 q ∧ b = .int .u64 r ∧ r < 4294967296 ∧ Guess v1 v0 R d0 q r) (fun a _ => (intOf a).toNat)
    case atStart => exact ⟨t, u, rfl, rfl, by omega, HG.out⟩
    case round =>
     clear HG
     obtain ⟨q, r, rfl, rfl, hr, G⟩ := hrel
     have g0 := G.q0
     have g1 := G.q1
     have g2 := G.r0
     have HG := Lib.hid G
     clear G
     obtain ⟨P, eP⟩ : ∃ P, q * v0 = P := ⟨_, rfl⟩
     have K : (4294967296 ≤ q ∨ (q < 4294967296 ∧ 4294967296 * r + d0 < P)) ∨ (q < 4294967296 ∧ P ≤ 4294967296 * r + d0) := by omega
     rcases K with (hq | ⟨hq, hp⟩) | ⟨hq, hp⟩
     ·clear eP
      obtain ⟨k1, G'⟩ := guess_down hv1 hv3 HR0.out HR1.out hd3 hd4 HG.out (.inl hq)
      obtain ⟨qb, hq'⟩ : ∃ x, q - 1 = x := ⟨_, rfl⟩
      obtain ⟨r', hr'⟩ : ∃ x, r + v1 = x := ⟨_, rfl⟩
      rw [hq', hr'] at G'
      have c1 : 0 ≤ qb := G'.q0
      have c2 : qb < q := by omega
      have c3 : 0 ≤ r' := G'.r0
      have HG' := Lib.hid G'
      clear G' HG
      by_cases hb : 4294967296 ≤ r'
      ·have Dg : Hid (Digit Y R d0 qb) := by rw [HY.out]; exact guess_break hv1 hv3 hv4 HR1.out hd3 hd4 HG'.out (by omega) hb
       have Hx := Lib.hid (And.intro c2 hr')
       clear HG'
       have Dg2 := Dg
       clear Dg
       obtain ⟨S, hS⟩ : ∃ S, R * 4294967296 + d0 - qb * Y = S := ⟨_, rfl⟩
       obtain ⟨f1, S0, S1⟩ := rest_eq Dg2.out HY1.out hS.symm
       obtain ⟨Q, hQ⟩ : ∃ Q, qa * 4294967296 + qb = Q := ⟨_, rfl⟩
       have f2 : IntKind.u64.wrap (IntKind.u64.wrap (qa * 4294967296) + qb) = Q := by
        have a0 := Dg1.out.q0
        have a1 := Dg1.out.q1
        have a2 := Dg2.out.q0
        have a3 := Dg2.out.q1
        rw [wrap_in (x := qa * 4294967296) (by omega) (by omega), wrap_in (by omega) (by omega), hQ]
       have HQ : Hid (qa * 4294967296 + qb = Q ∧ 0 ≤ qa * 4294967296 + qb ∧ qa * 4294967296 + qb < 18446744073709551616) := by
        have a0 := Dg1.out.q0
        have a1 := Dg1.out.q1
        have a2 := Dg2.out.q0
        have a3 := Dg2.out.q1
        exact ⟨hQ, by omega, by omega⟩
       have Z : Hid (Q = (hi * 18446744073709551616 + lo) / y ∧ S / p = (hi * 18446744073709551616 + lo) % y) := by
        refine norm_end p0 (by omega) ?_ S0 (by rw [Hyp.out]; exact S1)
        have a := HnE.out
        have b := HDd.out
        have c := HR.out
        rw [Hyp.out, a, b]
        grind
       have HS := Lib.hid (And.intro S0 S1)
       clear hS hQ S0 S1
       go_wp2
       go_ret2
       exact ⟨ret_u2 (by first | exact Z.out.1 | (rw [HQ.out.1]; exact Z.out.1) | (rw [wrap_in HQ.out.2.1 HQ.out.2.2, HQ.out.1]; exact Z.out.1)) (by rw [Hpp.out]; exact Z.out.2), 0, rfl⟩
      ·have Hb : r' < 4294967296 := by omega
       go_wp2
       go_round
       case rel => exact ⟨qb, r', rfl, rfl, Hb, HG'.out⟩
       case measure => simp [intOf]; omega
     ·obtain ⟨b0, b1⟩ := guess_prod hv3 hv4 g0 hq
      have eW : IntKind.u64.wrap (q * v0) = P := by rw [wrap_in b0 b1, eP]
      rw [eP] at b0 b1
      have Hp := Lib.hid (show 4294967296 ≤ q ∨ 4294967296 * r + d0 < q * v0 by rw [eP]; exact .inr hp)
      clear eP
      obtain ⟨k1, G'⟩ := guess_down hv1 hv3 HR0.out HR1.out hd3 hd4 HG.out Hp.out
      obtain ⟨qb, hq'⟩ : ∃ x, q - 1 = x := ⟨_, rfl⟩
      obtain ⟨r', hr'⟩ : ∃ x, r + v1 = x := ⟨_, rfl⟩
      rw [hq', hr'] at G'
      have c1 : 0 ≤ qb := G'.q0
      have c2 : qb < q := by omega
      have c3 : 0 ≤ r' := G'.r0
      have HG' := Lib.hid G'
      clear G' HG
      by_cases hb : 4294967296 ≤ r'
      ·have Dg : Hid (Digit Y R d0 qb) := by rw [HY.out]; exact guess_break hv1 hv3 hv4 HR1.out hd3 hd4 HG'.out (by omega) hb
       have Hx := Lib.hid (And.intro c2 hr')
       clear HG'
       have Dg2 := Dg
       clear Dg
       obtain ⟨S, hS⟩ : ∃ S, R * 4294967296 + d0 - qb * Y = S := ⟨_, rfl⟩
       obtain ⟨f1, S0, S1⟩ := rest_eq Dg2.out HY1.out hS.symm
       obtain ⟨Q, hQ⟩ : ∃ Q, qa * 4294967296 + qb = Q := ⟨_, rfl⟩
       have f2 : IntKind.u64.wrap (IntKind.u64.wrap (qa * 4294967296) + qb) = Q := by
        have a0 := Dg1.out.q0
        have a1 := Dg1.out.q1
        have a2 := Dg2.out.q0
        have a3 := Dg2.out.q1
        rw [wrap_in (x := qa * 4294967296) (by omega) (by omega), wrap_in (by omega) (by omega), hQ]
       have HQ : Hid (qa * 4294967296 + qb = Q ∧ 0 ≤ qa * 4294967296 + qb ∧ qa * 4294967296 + qb < 18446744073709551616) := by
        have a0 := Dg1.out.q0
        have a1 := Dg1.out.q1
        have a2 := Dg2.out.q0
        have a3 := Dg2.out.q1
        exact ⟨hQ, by omega, by omega⟩
       have Z : Hid (Q = (hi * 18446744073709551616 + lo) / y ∧ S / p = (hi * 18446744073709551616 + lo) % y) := by
        refine norm_end p0 (by omega) ?_ S0 (by rw [Hyp.out]; exact S1)
        have a := HnE.out
        have b := HDd.out
        have c := HR.out
        rw [Hyp.out, a, b]
        grind
       have HS := Lib.hid (And.intro S0 S1)
       clear hS hQ S0 S1
       go_wp2
       go_ret2
       exact ⟨ret_u2 (by first | exact Z.out.1 | (rw [HQ.out.1]; exact Z.out.1) | (rw [wrap_in HQ.out.2.1 HQ.out.2.2, HQ.out.1]; exact Z.out.1)) (by rw [Hpp.out]; exact Z.out.2), 0, rfl⟩
      ·have Hb : r' < 4294967296 := by omega
       go_wp2
       go_round
       case rel => exact ⟨qb, r', rfl, rfl, Hb, HG'.out⟩
       case measure => simp [intOf]; omega
     ·obtain ⟨b0, b1⟩ := guess_prod hv3 hv4 g0 hq
      have eW : IntKind.u64.wrap (q * v0) = P := by rw [wrap_in b0 b1, eP]
      rw [eP] at b0 b1
      have Dg : Hid (Digit Y R d0 q) := by rw [HY.out]; exact guess_end hv1 hv3 HR1.out hd4 HG.out (by rw [eP]; exact hp)
      clear eP HG
      obtain ⟨qb, rfl⟩ : ∃ x, x = q := ⟨q, rfl⟩
      have Dg2 := Dg
      clear Dg
      obtain ⟨S, hS⟩ : ∃ S, R * 4294967296 + d0 - qb * Y = S := ⟨_, rfl⟩
      obtain ⟨f1, S0, S1⟩ := rest_eq Dg2.out HY1.out hS.symm
      obtain ⟨Q, hQ⟩ : ∃ Q, qa * 4294967296 + qb = Q := ⟨_, rfl⟩
      have f2 : IntKind.u64.wrap (IntKind.u64.wrap (qa * 4294967296) + qb) = Q := by
       have a0 := Dg1.out.q0
       have a1 := Dg1.out.q1
       have a2 := Dg2.out.q0
       have a3 := Dg2.out.q1
       rw [wrap_in (x := qa * 4294967296) (by omega) (by omega), wrap_in (by omega) (by omega), hQ]
      have HQ : Hid (qa * 4294967296 + qb = Q ∧ 0 ≤ qa * 4294967296 + qb ∧ qa * 4294967296 + qb < 18446744073709551616) := by
       have a0 := Dg1.out.q0
       have a1 := Dg1.out.q1
       have a2 := Dg2.out.q0
       have a3 := Dg2.out.q1
       exact ⟨hQ, by omega, by omega⟩
      have Z : Hid (Q = (hi * 18446744073709551616 + lo) / y ∧ S / p = (hi * 18446744073709551616 + lo) % y) := by
       refine norm_end p0 (by omega) ?_ S0 (by rw [Hyp.out]; exact S1)
       have a := HnE.out
       have b := HDd.out
       have c := HR.out
       rw [Hyp.out, a, b]
       grind
      have HS := Lib.hid (And.intro S0 S1)
      clear hS hQ S0 S1
      go_wp2
      go_ret2
      exact ⟨ret_u2 (by first | exact Z.out.1 | (rw [HQ.out.1]; exact Z.out.1) | (rw [wrap_in HQ.out.2.1 HQ.out.2.2, HQ.out.1]; exact Z.out.1)) (by rw [Hpp.out]; exact Z.out.2), 0, rfl⟩
   ·have Hb : r' < 4294967296 := by omega
    go_wp2
    go_round
    case rel => exact ⟨qa, r', rfl, rfl, Hb, HG'.out⟩
    case measure => simp [intOf]; omega
  ·obtain ⟨b0, b1⟩ := guess_prod hv3 hv4 g0 hq
   have eW : IntKind.u64.wrap (q * v0) = P := by rw [wrap_in b0 b1, eP]
   rw [eP] at b0 b1
   have Dg : Hid (Digit Y U d1 q) := by rw [HY.out]; exact guess_end hv1 hv3 HU.out hd2 HG.out (by rw [eP]; exact hp)
   clear eP HG
   obtain ⟨qa, rfl⟩ : ∃ x, x = q := ⟨q, rfl⟩
   have Dg1 := Dg
   clear Dg
   obtain ⟨R, hR⟩ : ∃ R, U * 4294967296 + d1 - qa * Y = R := ⟨_, rfl⟩
   obtain ⟨f1, R0, R1⟩ := rest_eq Dg1.out HY1.out hR.symm
   obtain ⟨G0, Gr⟩ := guess_start hv1 hv3 hv4 R0 (by rw [← HY.out]; exact R1) hd3 hd4
   obtain ⟨t, ht⟩ : ∃ t, R / v1 = t := ⟨_, rfl⟩
   rw [ht] at G0 Gr
   obtain ⟨u, hu⟩ : ∃ u, R - t * v1 = u := ⟨_, rfl⟩
   rw [hu] at G0 Gr
   have tv : 0 ≤ t * v1 := Int.mul_nonneg G0.q0 (by omega)
   have hR1 : R < 18446744073709551616 := by have := HY1.out; omega
   have f8 : IntKind.u64.wrap (R.tdiv v1) = t := by rw [Int.tdiv_eq_ediv_of_nonneg R0, ht]; exact wrap_in G0.q0 (by have := G0.q1; omega)
   have f9 : IntKind.u64.wrap (R - IntKind.u64.wrap (t * v1)) = u := by
    have := G0.r0
    rw [wrap_in tv (by omega), hu, wrap_in G0.r0 (by omega)]
   have HR0 := Lib.hid R0
   have HR1 : Hid (R < v1 * 4294967296 + v0) := by rw [← HY.out]; exact R1
   have HR := Lib.hid hR
   have HG := Lib.hid G0
   clear R0 R1 hR G0 ht hu tv hR1
   go_wp2
   have X : True := trivial
   clear f1 f8 f9
   go_loop [18, 16] (fun a b => ∃ q r : Int, a = .int .u64 q ∧ b = .int .u64 r ∧ r < 4294967296 ∧ Guess v1 v0 R d0 q r) (fun a _ => (intOf a).toNat)
   case atStart => exact ⟨t, u, rfl, rfl, by omega, HG.out⟩
   case round =>
    clear HG
    obtain ⟨q, r, rfl, rfl, hr, G⟩ := hrel
    have g0 := G.q0
    have g1 := G.q1
    have g2 := G.r0
    have HG := Lib.hid G
    clear G
    obtain ⟨P, eP⟩ : ∃ P, q * v0 = P := ⟨_, rfl⟩
    have K : (4294967296 ≤ q ∨ (q < 4294967296 ∧ 4294967296 * r + d0 < P)) ∨ (q < 4294967296 ∧ P ≤ 4294967296 * r + d0) := by omega
    rcases K with (hq | ⟨hq, hp⟩) | ⟨hq, hp⟩
    ·clear eP
     obtain ⟨k1, G'⟩ := guess_down hv1 hv3 HR0.out HR1.out hd3 hd4 HG.out (.inl hq)
     obtain ⟨qb, hq'⟩ : ∃ x, q - 1 = x := ⟨_, rfl⟩
     obtain ⟨r', hr'⟩ : ∃ x, r + v1 = x := ⟨_, rfl⟩
     rw [hq', hr'] at G'
     have c1 : 0 ≤ qb := G'.q0
     have c2 : qb < q := by omega
     have c3 : 0 ≤ r' := G'.r0
     have HG' := Lib.hid G'
     clear G' HG
     by_cases hb : 4294967296 ≤ r'
     ·have Dg : Hid (Digit Y R d0 qb) := by rw [HY.out]; exact guess_break hv1 hv3 hv4 HR1.out hd3 hd4 HG'.out (by omega) hb
      have Hx := Lib.hid (And.intro c2 hr')
      clear HG'
      have Dg2 := Dg
      clear Dg
      obtain ⟨S, hS⟩ : ∃ S, R * 4294967296 + d0 - qb * Y = S := ⟨_, rfl⟩
      obtain ⟨f1, S0, S1⟩ := rest_eq Dg2.out HY1.out hS.symm
      obtain ⟨Q, hQ⟩ : ∃ Q, qa * 4294967296 + qb = Q := ⟨_, rfl⟩
      have f2 : IntKind.u64.wrap (IntKind.u64.wrap (qa * 4294967296) + qb) = Q := by
       have a0 := Dg1.out.q0
       have a1 := Dg1.out.q1
       have a2 := Dg2.out.q0
       have a3 := Dg2.out.q1
       rw [wrap_in (x := qa * 4294967296) (by omega) (by omega), wrap_in (by omega) (by omega), hQ]
      have HQ : Hid (qa * 4294967296 + qb = Q ∧ 0 ≤ qa * 4294967296 + qb ∧ qa * 4294967296 + qb < 18446744073709551616) := by
       have a0 := Dg1.out.q0
       have a1 := Dg1.out.q1
       have a2 := Dg2.out.q0
       have a3 := Dg2.out.q1
       exact ⟨hQ, by omega, by omega⟩
      have Z : Hid (Q = (hi * 18446744073709551616 + lo) / y ∧ S / p = (hi * 18446744073709551616 + lo) % y) := by
       refine norm_end p0 (by omega) ?_ S0 (by rw [Hyp.out]; exact S1)
       have a := HnE.out
       have b := HDd.out
       have c := HR.out
       rw [Hyp.out, a, b]
       grind
      have HS := Lib.hid (And.intro S0 S1)
      clear hS hQ S0 S1
      go_wp2
      go_ret2
      exact ⟨ret_u2 (by first | exact Z.out.1 | (rw [HQ.out.1]; exact Z.out.1) | (rw [wrap_in HQ.out.2.1 HQ.out.2.2, HQ.out.1]; exact Z.out.1)) (by rw [Hpp.out]; exact Z.out.2), 0, rfl⟩
     ·have Hb : r' < 4294967296 := by omega
      go_wp2
      go_round
      case rel => exact ⟨qb, r', rfl, rfl, Hb, HG'.out⟩
      case measure => simp [intOf]; omega
    ·obtain ⟨b0, b1⟩ := guess_prod hv3 hv4 g0 hq
     have eW : IntKind.u64.wrap (q * v0) = P := by rw [wrap_in b0 b1, eP]
     rw [eP] at b0 b1
     have Hp := Lib.hid (show 4294967296 ≤ q ∨ 4294967296 * r + d0 < q * v0 by rw [eP]; exact .inr hp)
     clear eP
     obtain ⟨k1, G'⟩ := guess_down hv1 hv3 HR0.out HR1.out hd3 hd4 HG.out Hp.out
     obtain ⟨qb, hq'⟩ : ∃ x, q - 1 = x := ⟨_, rfl⟩
     obtain ⟨r', hr'⟩ : ∃ x, r + v1 = x := ⟨_, rfl⟩
     rw [hq', hr'] at G'
     have c1 : 0 ≤ qb := G'.q0
     have c2 : qb < q := by omega
     have c3 : 0 ≤ r' := G'.r0
     have HG' := Lib.hid G'
     clear G' HG
     by_cases hb : 4294967296 ≤ r'
     ·have Dg : Hid (Digit Y R d0 qb) := by rw [HY.out]; exact guess_break hv1 hv3 hv4 HR1.out hd3 hd4 HG'.out (by omega) hb
      have Hx := Lib.hid (And.intro c2 hr')
      clear HG'
      have Dg2 := Dg
      clear Dg
      obtain ⟨S, hS⟩ : ∃ S, R * 4294967296 + d0 - qb * Y = S := ⟨_, rfl⟩
      obtain ⟨f1, S0, S1⟩ := rest_eq Dg2.out HY1.out hS.symm
      obtain ⟨Q, hQ⟩ : ∃ Q, qa * 4294967296 + qb = Q := ⟨_, rfl⟩
      have f2 : IntKind.u64.wrap (IntKind.u64.wrap (qa * 4294967296) + qb) = Q := by
       have a0 := Dg1.out.q0
       have a1 := Dg1.out.q1
       have a2 := Dg2.out.q0
       have a3 := Dg2.out.q1
       rw [wrap_in (x := qa * 4294967296) (by omega) (by omega), wrap_in (by omega) (by omega), hQ]
      have HQ : Hid (qa * 4294967296 + qb = Q ∧ 0 ≤ qa * 4294967296 + qb ∧ qa * 4294967296 + qb < 18446744073709551616) := by
       have a0 := Dg1.out.q0
       have a1 := Dg1.out.q1
       have a2 := Dg2.out.q0
       have a3 := Dg2.out.q1
       exact ⟨hQ, by omega, by omega⟩
      have Z : Hid (Q = (hi * 18446744073709551616 + lo) / y ∧ S / p = (hi * 18446744073709551616 + lo) % y) := by
       refine norm_end p0 (by omega) ?_ S0 (by rw [Hyp.out]; exact S1)
       have a := HnE.out
       have b := HDd.out
       have c := HR.out
       rw [Hyp.out, a, b]
       grind
      have HS := Lib.hid (And.intro S0 S1)
      clear hS hQ S0 S1
      go_wp2
      go_ret2
      exact ⟨ret_u2 (by first | exact Z.out.1 | (rw [HQ.out.1]; exact Z.out.1) | (rw [wrap_in HQ.out.2.1 HQ.out.2.2, HQ.out.1]; exact Z.out.1)) (by rw [Hpp.out]; exact Z.out.2), 0, rfl⟩
     ·have Hb : r' < 4294967296 := by omega
      go_wp2
      go_round
      case rel => exact ⟨qb, r', rfl, rfl, Hb, HG'.out⟩
      case measure => simp [intOf]; omega
    ·obtain ⟨b0, b1⟩ := guess_prod hv3 hv4 g0 hq
     have eW : IntKind.u64.wrap (q * v0) = P := by rw [wrap_in b0 b1, eP]
     rw [eP] at b0 b1
     have Dg : Hid (Digit Y R d0 q) := by rw [HY.out]; exact guess_end hv1 hv3 HR1.out hd4 HG.out (by rw [eP]; exact hp)
     clear eP HG
     obtain ⟨qb, rfl⟩ : ∃ x, x = q := ⟨q, rfl⟩
     have Dg2 := Dg
     clear Dg
     obtain ⟨S, hS⟩ : ∃ S, R * 4294967296 + d0 - qb * Y = S := ⟨_, rfl⟩
     obtain ⟨f1, S0, S1⟩ := rest_eq Dg2.out HY1.out hS.symm
     obtain ⟨Q, hQ⟩ : ∃ Q, qa * 4294967296 + qb = Q := ⟨_, rfl⟩
     have f2 : IntKind.u64.wrap (IntKind.u64.wrap (qa * 4294967296) + qb) = Q := by
      have a0 := Dg1.out.q0
      have a1 := Dg1.out.q1
      have a2 := Dg2.out.q0
      have a3 := Dg2.out.q1
      rw [wrap_in (x := qa * 4294967296) (by omega) (by omega), wrap_in (by omega) (by omega), hQ]
     have HQ : Hid (qa * 4294967296 + qb = Q ∧ 0 ≤ qa * 4294967296 + qb ∧ qa * 4294967296 + qb < 18446744073709551616) := by
      have a0 := Dg1.out.q0
      have a1 := Dg1.out.q1
      have a2 := Dg2.out.q0
      have a3 := Dg2.out.q1
      exact ⟨hQ, by omega, by omega⟩
     have Z : Hid (Q = (hi * 18446744073709551616 + lo) / y ∧ S / p = (hi * 18446744073709551616 + lo) % y) := by
      refine norm_end p0 (by omega) ?_ S0 (by rw [Hyp.out]; exact S1)
      have a := HnE.out
      have b := HDd.out
      have c := HR.out
      rw [Hyp.out, a, b]
      grind
     have HS := Lib.hid (And.intro S0 S1)
     clear hS hQ S0 S1
     go_wp2
     go_ret2
     exact ⟨ret_u2 (by first | exact Z.out.1 | (rw [HQ.out.1]; exact Z.out.1) | (rw [wrap_in HQ.out.2.1 HQ.out.2.2, HQ.out.1]; exact Z.out.1)) (by rw [Hpp.out]; exact Z.out.2), 0, rfl⟩

end Go.Proofs.YtggpdhdbeokkcaaGreat
