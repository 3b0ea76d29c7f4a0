/- Layer 5: which row leaves. -/
import Derived.Test.YtggpdhdbeokkcaaGreatPPiv
namespace Go.Proofs.YtggpdhdbeokkcaaGreat
set_option linter.unusedVariables false
open Go.RowKit Go.Shelf

structure BefR (tb rb Cb i k s R m wd : Nat) (G C : Nat → Nat) (va vb vc vd q : Int) (vg : Bool) (vh vl : Int) (Wc : World) (L : Nat → Bool) (v : Nat → Value) (W : World) : Prop where
 st : Below Wc.heap.size Wc W
 w1 : Had L 1 (∀ j ∈ [0], L j = true)
 w2 : Had L 2 (∀ j ∈ [1], L j = true)
 w3 : Had L 3 (∀ j ∈ [2], L j = true)
 w5 : Had L 5 (∀ j ∈ [3, 4], L j = true)
 w6 : Had L 6 (∀ j ∈ [5], L j = true)
 w8 : Had L 8 (∀ j ∈ [6, 7], L j = true)
 w9 : Had L 9 (∀ j ∈ [8], L j = true)
 w11 : Had L 11 (∀ j ∈ [10], L j = true)
 w12 : Had L 12 (∀ j ∈ [11], L j = true)
 w13 : Had L 13 (∀ j ∈ [12], L j = true)
 w15 : Had L 15 (∀ j ∈ [13, 14], L j = true)
 w16 : Had L 16 (∀ j ∈ [15], L j = true)
 w18 : Had L 18 (∀ j ∈ [16, 17], L j = true)
 w19 : Had L 19 (∀ j ∈ [18], L j = true)
 w21 : Had L 21 (∀ j ∈ [20], L j = true)
 w22 : Had L 22 (∀ j ∈ [21], L j = true)
 w23 : Had L 23 (∀ j ∈ [22], L j = true)
 w25 : Had L 25 (∀ j ∈ [23, 24], L j = true)
 w26 : Had L 26 (∀ j ∈ [25], L j = true)
 w28 : Had L 28 (∀ j ∈ [26, 27], L j = true)
 w29 : Had L 29 (∀ j ∈ [28], L j = true)
 w31 : Had L 31 (∀ j ∈ [30], L j = true)
 w32 : Had L 32 (∀ j ∈ [31], L j = true)
 w33 : Had L 33 (∀ j ∈ [32], L j = true)
 w35 : Had L 35 (∀ j ∈ [33, 34], L j = true)
 w36 : Had L 36 (∀ j ∈ [35], L j = true)
 w38 : Had L 38 (∀ j ∈ [36, 37], L j = true)
 w39 : Had L 39 (∀ j ∈ [38], L j = true)
 w40 : Had L 40 (∀ j ∈ [9, 19, 29, 39], L j = true)
 w41 : Had L 41 (∀ j ∈ [40], L j = true)
 w42 : Had L 42 (∀ j ∈ [41], L j = true)
 f0 : Had L 0 (v 13 = .pointer (some ⟨tb, 0, none⟩))
 f1 : Had L 1 (v 14 = .pointer (some ⟨tb, 0, none⟩))
 f2 : Had L 2 (v 15 = .pointer (some ⟨tb, 0, none⟩))
 f3 : Had L 3 (v 16 = .slice (some ⟨rb, 0, none⟩) (m + 2) (Cb))
 f4 : Had L 4 (v 17 = .int .i64 (i : Int))
 f5 : Had L 5 (v 18 = .pointer (some ⟨rb, i, none⟩))
 f6 : Had L 6 (v 19 = .slice (some ⟨G i, 0, none⟩) (wd) (C i))
 f7 : Had L 7 (v 20 = .int .i64 (R : Int))
 f8 : Had L 8 (v 21 = .pointer (some ⟨G i, R, none⟩))
 f9 : Had L 9 (v 22 = .int .i64 va)
 f10 : Had L 10 (v 23 = .pointer (some ⟨tb, 0, none⟩))
 f11 : Had L 11 (v 24 = .pointer (some ⟨tb, 0, none⟩))
 f12 : Had L 12 (v 25 = .pointer (some ⟨tb, 0, none⟩))
 f13 : Had L 13 (v 26 = .slice (some ⟨rb, 0, none⟩) (m + 2) (Cb))
 f14 : Had L 14 (v 27 = .int .i64 (k : Int))
 f15 : Had L 15 (v 28 = .pointer (some ⟨rb, k, none⟩))
 f16 : Had L 16 (v 29 = .slice (some ⟨G k, 0, none⟩) (wd) (C k))
 f17 : Had L 17 (v 30 = .int .i64 (s : Int))
 f18 : Had L 18 (v 31 = .pointer (some ⟨G k, s, none⟩))
 f19 : Had L 19 (v 32 = .int .i64 vb)
 f20 : Had L 20 (v 33 = .pointer (some ⟨tb, 0, none⟩))
 f21 : Had L 21 (v 34 = .pointer (some ⟨tb, 0, none⟩))
 f22 : Had L 22 (v 35 = .pointer (some ⟨tb, 0, none⟩))
 f23 : Had L 23 (v 36 = .slice (some ⟨rb, 0, none⟩) (m + 2) (Cb))
 f24 : Had L 24 (v 37 = .int .i64 (k : Int))
 f25 : Had L 25 (v 38 = .pointer (some ⟨rb, k, none⟩))
 f26 : Had L 26 (v 39 = .slice (some ⟨G k, 0, none⟩) (wd) (C k))
 f27 : Had L 27 (v 40 = .int .i64 (R : Int))
 f28 : Had L 28 (v 41 = .pointer (some ⟨G k, R, none⟩))
 f29 : Had L 29 (v 42 = .int .i64 vc)
 f30 : Had L 30 (v 43 = .pointer (some ⟨tb, 0, none⟩))
 f31 : Had L 31 (v 44 = .pointer (some ⟨tb, 0, none⟩))
 f32 : Had L 32 (v 45 = .pointer (some ⟨tb, 0, none⟩))
 f33 : Had L 33 (v 46 = .slice (some ⟨rb, 0, none⟩) (m + 2) (Cb))
 f34 : Had L 34 (v 47 = .int .i64 (i : Int))
 f35 : Had L 35 (v 48 = .pointer (some ⟨rb, i, none⟩))
 f36 : Had L 36 (v 49 = .slice (some ⟨G i, 0, none⟩) (wd) (C i))
 f37 : Had L 37 (v 50 = .int .i64 (s : Int))
 f38 : Had L 38 (v 51 = .pointer (some ⟨G i, s, none⟩))
 f39 : Had L 39 (v 52 = .int .i64 vd)
 f40 : Had L 40 (v 53 = .agg #[.bool vg, .int .u64 vh, .int .u64 vl])
 f41 : Had L 41 (v 54 = .int .i64 q)
 f42 : Had L 42 (v 10 = .int .i64 q)

theorem wcross_sign (a b c d : Int) (a0 : -4611686018427387904 ≤ a) (a1 : a ≤ 4611686018427387904) (b0 : -4611686018427387904 ≤ b) (b1 : b ≤ 4611686018427387904) (c0 : -4611686018427387904 ≤ c) (c1 : c ≤ 4611686018427387904) (d0 : -4611686018427387904 ≤ d) (d1 : d ≤ 4611686018427387904) :
  ∃ vg vh vl, (∀ w, Calls Tryz.prog 105 #[.int .i64 a, .int .i64 b, .int .i64 c, .int .i64 d] w fun e w' => e = .returned (.agg #[.bool vg, .int .u64 vh, .int .u64 vl]) ∧ Below w.heap.size w w') ∧
   ∀ w, Calls Tryz.prog 120 #[.agg #[.bool vg, .int .u64 vh, .int .u64 vl]] w fun e w' => e = .returned (.int .i64 (sgn (a * b - c * d))) ∧ Below w.heap.size w w' := by
 obtain ⟨g, hg, hc⟩ := wcrossed_any a b c d a0 a1 b0 b1 c0 c1 d0 d1
 have m1 := abs_mul_lt a0 a1 b0 b1
 have m2 := abs_mul_lt c0 c1 d0 d1
 exact ⟨g, _, _, hc, fun w => wsign_any g (a * b - c * d) w hg (by omega) (by omega)⟩

def befB (E : Nat → Nat → Int) (β : Nat → Int) (R i k s : Nat) : Bool := decide (E i R * E k s - E k R * E i s < 0 ∨ (E i R * E k s - E k R * E i s = 0 ∧ β i < β k))

section
variable {B0 : Nat} {W W2 : World} {tb rb Cb bb sb m n wd : Nat} {pa pb : Option Addr} {pc pd : Nat} {G C : Nat → Nat} {E : Nat → Nat → Int} {β : Nat → Int} {sg : Nat → Int} {D : Int}
set_option maxRecDepth 100000 in
set_option maxHeartbeats 16000000 in
theorem before_any (i k s : Nat) (w : World) (hS : TSt B0 w tb rb Cb bb sb m n wd pa pb pc pd G C E β sg D) (hi : i < m) (hk : k < m) (hs : s < wd) (hwd : wd = n + m + m + 1) (hm : m ≤ 1000) (hn : n ≤ 1000)
  (hE : ∀ i j, i < m + 2 → j < wd → -4611686018427387904 ≤ E i j ∧ E i j ≤ 4611686018427387904) :
  Calls Tryz.prog 107 #[.pointer (some ⟨tb, 0, none⟩), .int .i64 (i : Nat), .int .i64 (k : Nat), .int .i64 (s : Nat)] w fun e w' => e = .returned (.bool (befB E β (n + m + m) i k s)) ∧ Below w.heap.size w w' := by
 have HR := Lib.hid (right_any w hS hm hn)
 have hRw : n + m + m < wd := by omega
 obtain ⟨R, hRe⟩ : ∃ R, R = n + m + m := ⟨_, rfl⟩
 rw [← hRe] at hRw HR
 rw [← hRe]
 clear hRe hwd
 have g1 := hE i R (by omega) hRw
 have g2 := hE k s (by omega) hs
 have g3 := hE k R (by omega) hRw
 have g4 := hE i s (by omega) hs
 have CC := wcross_sign (E i R) (E k s) (E k R) (E i s) g1.1 g1.2 g2.1 g2.2 g3.1 g3.2 g4.1 g4.2
 obtain ⟨tB, htB⟩ : ∃ t, befB E β R i k s = t := ⟨_, rfl⟩
 rw [htB]
 unfold befB at htB
 obtain ⟨z, hz⟩ : ∃ z, E i R * E k s - E k R * E i s = z := ⟨_, rfl⟩
 rw [hz] at CC
 rw [hz] at htB
 have HTB := Lib.hid htB
 clear htB hz g1 g2 g3 g4 hE
 obtain ⟨vg, vh, vl, CX0, CO0⟩ := CC
 obtain ⟨q, hq⟩ : ∃ q, sgn z = q := ⟨_, rfl⟩
 rw [hq] at CO0
 have CX := fun w => Lib.hid (CX0 w)
 have CO := fun w => Lib.hid (CO0 w)
 have HQ := Lib.hid hq
 clear CX0 CO0 hq
 have HS := Lib.hid hS
 clear hS
 go_enter Tryz.func107, Tryz.ntmps107
 go_upto_region 2 with (first | (go_at_call 86; (with_reducible refine ((HR.out).mono ?_)); rintro e w1 ⟨rfl, kk, rfl⟩))
 have hbx : Below w.heap.size w (w.drewN kk) := below_drewN' (Below.refl _ _) kk
 generalize w.drewN kk = w2 at *
 have HS2 := Lib.hid (HS.out.on hbx)
 have HBX := Lib.hid hbx
 clear HS hbx HR
 have L0 : Hid (w2.cell? ⟨tb, 0, none⟩ = some (.slice (some ⟨rb, 0, none⟩) (m + 2) (Cb)) ∧ tb < w2.heap.size) := ⟨HS2.out.t.c0, HS2.out.t.hb⟩
 have LI : Hid (w2.cell? ⟨rb, i, none⟩ = some (.slice (some ⟨G i, 0, none⟩) (wd) (C i)) ∧ rb < w2.heap.size) := ⟨HS2.out.g.top i (by omega), HS2.out.g.hb⟩
 have LK : Hid (w2.cell? ⟨rb, k, none⟩ = some (.slice (some ⟨G k, 0, none⟩) (wd) (C k)) ∧ rb < w2.heap.size) := ⟨HS2.out.g.top k (by omega), HS2.out.g.hb⟩
 have LA : Hid (w2.cell? ⟨G i, R, none⟩ = some (.int .i64 (E i R)) ∧ G i < w2.heap.size) := ⟨HS2.out.g.cell i R (by omega) hRw, (HS2.out.g.row i (by omega)).2.1⟩
 have LB : Hid (w2.cell? ⟨G k, s, none⟩ = some (.int .i64 (E k s)) ∧ G k < w2.heap.size) := ⟨HS2.out.g.cell k s (by omega) hs, (HS2.out.g.row k (by omega)).2.1⟩
 have LC : Hid (w2.cell? ⟨G k, R, none⟩ = some (.int .i64 (E k R)) ∧ G k < w2.heap.size) := ⟨HS2.out.g.cell k R (by omega) hRw, (HS2.out.g.row k (by omega)).2.1⟩
 have LD : Hid (w2.cell? ⟨G i, s, none⟩ = some (.int .i64 (E i s)) ∧ G i < w2.heap.size) := ⟨HS2.out.g.cell i s (by omega) hs, (HS2.out.g.row i (by omega)).2.1⟩
 have l1 : (i : Int) < ((m + 2 : Nat) : Int) := by omega
 have l2 : (i : Int) < (m : Int) + 2 := by omega
 have l3 : (k : Int) < ((m + 2 : Nat) : Int) := by omega
 have l4 : (k : Int) < (m : Int) + 2 := by omega
 generalize E i R = va at *
 generalize E k s = vb at *
 generalize E k R = vc at *
 generalize E i s = vd at *
 refine wp_region_each (fun L A W => ∃ (v : Nat → Value), A = ⟨#[_, _, _, _, _, _, _, _, _, _, v 10, _, _, v 13, v 14, v 15, v 16, v 17, v 18, v 19, v 20, v 21, v 22, v 23, v 24, v 25, v 26, v 27, v 28, v 29, v 30, v 31, v 32, v 33, v 34, v 35, v 36, v 37, v 38, v 39, v 40, v 41, v 42, v 43, v 44, v 45, v 46, v 47, v 48, v 49, v 50, v 51, v 52, v 53, v 54, _, _, _, _, _, _, _, _, _, _, _, _, _, _, _, _, _, _, _, _, _, _, _], []⟩ ∧ BefR tb rb Cb i k s R m wd G C va vb vc vd q vg vh vl w2 L v W) (by kernel_rfl) (by kernel_rfl) ⟨fun jz => undef, rfl, ⟨Below.drew (Below.refl _ _), Had.none, Had.none, Had.none, Had.none, Had.none, Had.none, Had.none, Had.none, Had.none, Had.none, Had.none, Had.none, Had.none, Had.none, Had.none, Had.none, Had.none, Had.none, Had.none, Had.none, Had.none, Had.none, Had.none, Had.none, Had.none, Had.none, Had.none, Had.none, Had.none, Had.none, Had.none, Had.none, Had.none, Had.none, Had.none, Had.none, Had.none, Had.none, Had.none, Had.none, Had.none, Had.none, Had.none, Had.none, Had.none, Had.none, Had.none, Had.none, Had.none, Had.none, Had.none, Had.none, Had.none, Had.none, Had.none, Had.none, Had.none, Had.none, Had.none, Had.none, Had.none, Had.none, Had.none, Had.none, Had.none, Had.none, Had.none, Had.none, Had.none, Had.none, Had.none, Had.none, Had.none, Had.none⟩⟩ (rs := [0, 1, 2, 3, 4, 5, 6, 7, 8, 9, 10, 11, 12, 13, 14, 15, 16, 17, 18, 19, 20, 21, 22, 23, 24, 25, 26, 27, 28, 29, 30, 31, 32, 33, 34, 35, 36, 37, 38, 39, 40, 41, 42]) (by kernel_rfl) ?_ ?_
 ·refine EachOf.cons [] rfl (by kernel_rfl) ?_ ?_
  ·rintro L A W ⟨v, rfl, hR⟩ hi hw K hK
   go_simp
   refine hK.out _ _ ?_
   exact ⟨(fun jz => if jz = 13 then .pointer (some ⟨tb, 0, none⟩) else v jz), rfl, ⟨hR.st, hR.w1.o, hR.w2.o, hR.w3.o, hR.w5.o, hR.w6.o, hR.w8.o, hR.w9.o, hR.w11.o, hR.w12.o, hR.w13.o, hR.w15.o, hR.w16.o, hR.w18.o, hR.w19.o, hR.w21.o, hR.w22.o, hR.w23.o, hR.w25.o, hR.w26.o, hR.w28.o, hR.w29.o, hR.w31.o, hR.w32.o, hR.w33.o, hR.w35.o, hR.w36.o, hR.w38.o, hR.w39.o, hR.w40.o, hR.w41.o, hR.w42.o, (fun _ => rfl), hR.f1.k, hR.f2.k, hR.f3.k, hR.f4.k, hR.f5.k, hR.f6.k, hR.f7.k, hR.f8.k, hR.f9.k, hR.f10.k, hR.f11.k, hR.f12.k, hR.f13.k, hR.f14.k, hR.f15.k, hR.f16.k, hR.f17.k, hR.f18.k, hR.f19.k, hR.f20.k, hR.f21.k, hR.f22.k, hR.f23.k, hR.f24.k, hR.f25.k, hR.f26.k, hR.f27.k, hR.f28.k, hR.f29.k, hR.f30.k, hR.f31.k, hR.f32.k, hR.f33.k, hR.f34.k, hR.f35.k, hR.f36.k, hR.f37.k, hR.f38.k, hR.f39.k, hR.f40.k, hR.f41.k, hR.f42.k⟩⟩
  refine EachOf.cons [0] rfl (by kernel_rfl) ?_ ?_
  ·rintro L A W ⟨v, rfl, hR⟩ hi hw K hK
   have e0 := hR.f0 (hw 0 (by simp))
   simp only [e0]
   clear e0
   go_simp
   refine hK.out _ _ ?_
   exact ⟨(fun jz => if jz = 13 then .pointer (some ⟨tb, 0, none⟩) else if jz = 14 then .pointer (some ⟨tb, 0, none⟩) else v jz), rfl, ⟨hR.st, (fun _ j hj => upd_on (hw j hj)), hR.w2.o, hR.w3.o, hR.w5.o, hR.w6.o, hR.w8.o, hR.w9.o, hR.w11.o, hR.w12.o, hR.w13.o, hR.w15.o, hR.w16.o, hR.w18.o, hR.w19.o, hR.w21.o, hR.w22.o, hR.w23.o, hR.w25.o, hR.w26.o, hR.w28.o, hR.w29.o, hR.w31.o, hR.w32.o, hR.w33.o, hR.w35.o, hR.w36.o, hR.w38.o, hR.w39.o, hR.w40.o, hR.w41.o, hR.w42.o, (fun _ => rfl), (fun _ => rfl), hR.f2.k, hR.f3.k, hR.f4.k, hR.f5.k, hR.f6.k, hR.f7.k, hR.f8.k, hR.f9.k, hR.f10.k, hR.f11.k, hR.f12.k, hR.f13.k, hR.f14.k, hR.f15.k, hR.f16.k, hR.f17.k, hR.f18.k, hR.f19.k, hR.f20.k, hR.f21.k, hR.f22.k, hR.f23.k, hR.f24.k, hR.f25.k, hR.f26.k, hR.f27.k, hR.f28.k, hR.f29.k, hR.f30.k, hR.f31.k, hR.f32.k, hR.f33.k, hR.f34.k, hR.f35.k, hR.f36.k, hR.f37.k, hR.f38.k, hR.f39.k, hR.f40.k, hR.f41.k, hR.f42.k⟩⟩
  refine EachOf.cons [1] rfl (by kernel_rfl) ?_ ?_
  ·rintro L A W ⟨v, rfl, hR⟩ hi hw K hK
   have e1 := hR.f1 (hw 1 (by simp))
   simp only [e1]
   clear e1
   go_simp
   refine hK.out _ _ ?_
   exact ⟨(fun jz => if jz = 14 then .pointer (some ⟨tb, 0, none⟩) else if jz = 15 then .pointer (some ⟨tb, 0, none⟩) else v jz), rfl, ⟨hR.st, hR.w1.o, (fun _ j hj => upd_on (hw j hj)), hR.w3.o, hR.w5.o, hR.w6.o, hR.w8.o, hR.w9.o, hR.w11.o, hR.w12.o, hR.w13.o, hR.w15.o, hR.w16.o, hR.w18.o, hR.w19.o, hR.w21.o, hR.w22.o, hR.w23.o, hR.w25.o, hR.w26.o, hR.w28.o, hR.w29.o, hR.w31.o, hR.w32.o, hR.w33.o, hR.w35.o, hR.w36.o, hR.w38.o, hR.w39.o, hR.w40.o, hR.w41.o, hR.w42.o, hR.f0.k, (fun _ => rfl), (fun _ => rfl), hR.f3.k, hR.f4.k, hR.f5.k, hR.f6.k, hR.f7.k, hR.f8.k, hR.f9.k, hR.f10.k, hR.f11.k, hR.f12.k, hR.f13.k, hR.f14.k, hR.f15.k, hR.f16.k, hR.f17.k, hR.f18.k, hR.f19.k, hR.f20.k, hR.f21.k, hR.f22.k, hR.f23.k, hR.f24.k, hR.f25.k, hR.f26.k, hR.f27.k, hR.f28.k, hR.f29.k, hR.f30.k, hR.f31.k, hR.f32.k, hR.f33.k, hR.f34.k, hR.f35.k, hR.f36.k, hR.f37.k, hR.f38.k, hR.f39.k, hR.f40.k, hR.f41.k, hR.f42.k⟩⟩
  refine EachOf.cons [2] rfl (by kernel_rfl) ?_ ?_
  ·rintro L A W ⟨v, rfl, hR⟩ hi hw K hK
   have e2 := hR.f2 (hw 2 (by simp))
   simp only [e2]
   clear e2
   have q0 := (hR.st.cell (p := ⟨tb, 0, none⟩) L0.out.2).trans L0.out.1
   go_simp
   refine hK.out _ _ ?_
   exact ⟨(fun jz => if jz = 15 then .pointer (some ⟨tb, 0, none⟩) else if jz = 16 then .slice (some ⟨rb, 0, none⟩) (m + 2) (Cb) else v jz), rfl, ⟨hR.st, hR.w1.o, hR.w2.o, (fun _ j hj => upd_on (hw j hj)), hR.w5.o, hR.w6.o, hR.w8.o, hR.w9.o, hR.w11.o, hR.w12.o, hR.w13.o, hR.w15.o, hR.w16.o, hR.w18.o, hR.w19.o, hR.w21.o, hR.w22.o, hR.w23.o, hR.w25.o, hR.w26.o, hR.w28.o, hR.w29.o, hR.w31.o, hR.w32.o, hR.w33.o, hR.w35.o, hR.w36.o, hR.w38.o, hR.w39.o, hR.w40.o, hR.w41.o, hR.w42.o, hR.f0.k, hR.f1.k, (fun _ => rfl), (fun _ => rfl), hR.f4.k, hR.f5.k, hR.f6.k, hR.f7.k, hR.f8.k, hR.f9.k, hR.f10.k, hR.f11.k, hR.f12.k, hR.f13.k, hR.f14.k, hR.f15.k, hR.f16.k, hR.f17.k, hR.f18.k, hR.f19.k, hR.f20.k, hR.f21.k, hR.f22.k, hR.f23.k, hR.f24.k, hR.f25.k, hR.f26.k, hR.f27.k, hR.f28.k, hR.f29.k, hR.f30.k, hR.f31.k, hR.f32.k, hR.f33.k, hR.f34.k, hR.f35.k, hR.f36.k, hR.f37.k, hR.f38.k, hR.f39.k, hR.f40.k, hR.f41.k, hR.f42.k⟩⟩
  refine EachOf.cons [] rfl (by kernel_rfl) ?_ ?_
  ·rintro L A W ⟨v, rfl, hR⟩ hi hw K hK
   go_simp
   refine hK.out _ _ ?_
   exact ⟨(fun jz => if jz = 17 then .int .i64 (i : Int) else v jz), rfl, ⟨hR.st, hR.w1.o, hR.w2.o, hR.w3.o, hR.w5.o, hR.w6.o, hR.w8.o, hR.w9.o, hR.w11.o, hR.w12.o, hR.w13.o, hR.w15.o, hR.w16.o, hR.w18.o, hR.w19.o, hR.w21.o, hR.w22.o, hR.w23.o, hR.w25.o, hR.w26.o, hR.w28.o, hR.w29.o, hR.w31.o, hR.w32.o, hR.w33.o, hR.w35.o, hR.w36.o, hR.w38.o, hR.w39.o, hR.w40.o, hR.w41.o, hR.w42.o, hR.f0.k, hR.f1.k, hR.f2.k, hR.f3.k, (fun _ => rfl), hR.f5.k, hR.f6.k, hR.f7.k, hR.f8.k, hR.f9.k, hR.f10.k, hR.f11.k, hR.f12.k, hR.f13.k, hR.f14.k, hR.f15.k, hR.f16.k, hR.f17.k, hR.f18.k, hR.f19.k, hR.f20.k, hR.f21.k, hR.f22.k, hR.f23.k, hR.f24.k, hR.f25.k, hR.f26.k, hR.f27.k, hR.f28.k, hR.f29.k, hR.f30.k, hR.f31.k, hR.f32.k, hR.f33.k, hR.f34.k, hR.f35.k, hR.f36.k, hR.f37.k, hR.f38.k, hR.f39.k, hR.f40.k, hR.f41.k, hR.f42.k⟩⟩
  refine EachOf.cons [3, 4] rfl (by kernel_rfl) ?_ ?_
  ·rintro L A W ⟨v, rfl, hR⟩ hi hw K hK
   have e3 := hR.f3 (hw 3 (by simp))
   have e4 := hR.f4 (hw 4 (by simp))
   simp only [e3, e4]
   clear e3 e4
   go_simp
   refine hK.out _ _ ?_
   exact ⟨(fun jz => if jz = 16 then .slice (some ⟨rb, 0, none⟩) (m + 2) (Cb) else if jz = 17 then .int .i64 (i : Int) else if jz = 18 then .pointer (some ⟨rb, i, none⟩) else v jz), rfl, ⟨hR.st, hR.w1.o, hR.w2.o, hR.w3.o, (fun _ j hj => upd_on (hw j hj)), hR.w6.o, hR.w8.o, hR.w9.o, hR.w11.o, hR.w12.o, hR.w13.o, hR.w15.o, hR.w16.o, hR.w18.o, hR.w19.o, hR.w21.o, hR.w22.o, hR.w23.o, hR.w25.o, hR.w26.o, hR.w28.o, hR.w29.o, hR.w31.o, hR.w32.o, hR.w33.o, hR.w35.o, hR.w36.o, hR.w38.o, hR.w39.o, hR.w40.o, hR.w41.o, hR.w42.o, hR.f0.k, hR.f1.k, hR.f2.k, (fun _ => rfl), (fun _ => rfl), (fun _ => rfl), hR.f6.k, hR.f7.k, hR.f8.k, hR.f9.k, hR.f10.k, hR.f11.k, hR.f12.k, hR.f13.k, hR.f14.k, hR.f15.k, hR.f16.k, hR.f17.k, hR.f18.k, hR.f19.k, hR.f20.k, hR.f21.k, hR.f22.k, hR.f23.k, hR.f24.k, hR.f25.k, hR.f26.k, hR.f27.k, hR.f28.k, hR.f29.k, hR.f30.k, hR.f31.k, hR.f32.k, hR.f33.k, hR.f34.k, hR.f35.k, hR.f36.k, hR.f37.k, hR.f38.k, hR.f39.k, hR.f40.k, hR.f41.k, hR.f42.k⟩⟩
  refine EachOf.cons [5] rfl (by kernel_rfl) ?_ ?_
  ·rintro L A W ⟨v, rfl, hR⟩ hi hw K hK
   have e5 := hR.f5 (hw 5 (by simp))
   simp only [e5]
   clear e5
   have q0 := (hR.st.cell (p := ⟨rb, i, none⟩) LI.out.2).trans LI.out.1
   go_simp
   refine hK.out _ _ ?_
   exact ⟨(fun jz => if jz = 18 then .pointer (some ⟨rb, i, none⟩) else if jz = 19 then .slice (some ⟨G i, 0, none⟩) (wd) (C i) else v jz), rfl, ⟨hR.st, hR.w1.o, hR.w2.o, hR.w3.o, hR.w5.o, (fun _ j hj => upd_on (hw j hj)), hR.w8.o, hR.w9.o, hR.w11.o, hR.w12.o, hR.w13.o, hR.w15.o, hR.w16.o, hR.w18.o, hR.w19.o, hR.w21.o, hR.w22.o, hR.w23.o, hR.w25.o, hR.w26.o, hR.w28.o, hR.w29.o, hR.w31.o, hR.w32.o, hR.w33.o, hR.w35.o, hR.w36.o, hR.w38.o, hR.w39.o, hR.w40.o, hR.w41.o, hR.w42.o, hR.f0.k, hR.f1.k, hR.f2.k, hR.f3.k, hR.f4.k, (fun _ => rfl), (fun _ => rfl), hR.f7.k, hR.f8.k, hR.f9.k, hR.f10.k, hR.f11.k, hR.f12.k, hR.f13.k, hR.f14.k, hR.f15.k, hR.f16.k, hR.f17.k, hR.f18.k, hR.f19.k, hR.f20.k, hR.f21.k, hR.f22.k, hR.f23.k, hR.f24.k, hR.f25.k, hR.f26.k, hR.f27.k, hR.f28.k, hR.f29.k, hR.f30.k, hR.f31.k, hR.f32.k, hR.f33.k, hR.f34.k, hR.f35.k, hR.f36.k, hR.f37.k, hR.f38.k, hR.f39.k, hR.f40.k, hR.f41.k, hR.f42.k⟩⟩
  refine EachOf.cons [] rfl (by kernel_rfl) ?_ ?_
  ·rintro L A W ⟨v, rfl, hR⟩ hi hw K hK
   go_simp
   refine hK.out _ _ ?_
   exact ⟨(fun jz => if jz = 20 then .int .i64 (R : Int) else v jz), rfl, ⟨hR.st, hR.w1.o, hR.w2.o, hR.w3.o, hR.w5.o, hR.w6.o, hR.w8.o, hR.w9.o, hR.w11.o, hR.w12.o, hR.w13.o, hR.w15.o, hR.w16.o, hR.w18.o, hR.w19.o, hR.w21.o, hR.w22.o, hR.w23.o, hR.w25.o, hR.w26.o, hR.w28.o, hR.w29.o, hR.w31.o, hR.w32.o, hR.w33.o, hR.w35.o, hR.w36.o, hR.w38.o, hR.w39.o, hR.w40.o, hR.w41.o, hR.w42.o, hR.f0.k, hR.f1.k, hR.f2.k, hR.f3.k, hR.f4.k, hR.f5.k, hR.f6.k, (fun _ => rfl), hR.f8.k, hR.f9.k, hR.f10.k, hR.f11.k, hR.f12.k, hR.f13.k, hR.f14.k, hR.f15.k, hR.f16.k, hR.f17.k, hR.f18.k, hR.f19.k, hR.f20.k, hR.f21.k, hR.f22.k, hR.f23.k, hR.f24.k, hR.f25.k, hR.f26.k, hR.f27.k, hR.f28.k, hR.f29.k, hR.f30.k, hR.f31.k, hR.f32.k, hR.f33.k, hR.f34.k, hR.f35.k, hR.f36.k, hR.f37.k, hR.f38.k, hR.f39.k, hR.f40.k, hR.f41.k, hR.f42.k⟩⟩
  refine EachOf.cons [6, 7] rfl (by kernel_rfl) ?_ ?_
  ·rintro L A W ⟨v, rfl, hR⟩ hi hw K hK
   have e6 := hR.f6 (hw 6 (by simp))
   have e7 := hR.f7 (hw 7 (by simp))
   simp only [e6, e7]
   clear e6 e7
   go_simp
   refine hK.out _ _ ?_
   exact ⟨(fun jz => if jz = 19 then .slice (some ⟨G i, 0, none⟩) (wd) (C i) else if jz = 20 then .int .i64 (R : Int) else if jz = 21 then .pointer (some ⟨G i, R, none⟩) else v jz), rfl, ⟨hR.st, hR.w1.o, hR.w2.o, hR.w3.o, hR.w5.o, hR.w6.o, (fun _ j hj => upd_on (hw j hj)), hR.w9.o, hR.w11.o, hR.w12.o, hR.w13.o, hR.w15.o, hR.w16.o, hR.w18.o, hR.w19.o, hR.w21.o, hR.w22.o, hR.w23.o, hR.w25.o, hR.w26.o, hR.w28.o, hR.w29.o, hR.w31.o, hR.w32.o, hR.w33.o, hR.w35.o, hR.w36.o, hR.w38.o, hR.w39.o, hR.w40.o, hR.w41.o, hR.w42.o, hR.f0.k, hR.f1.k, hR.f2.k, hR.f3.k, hR.f4.k, hR.f5.k, (fun _ => rfl), (fun _ => rfl), (fun _ => rfl), hR.f9.k, hR.f10.k, hR.f11.k, hR.f12.k, hR.f13.k, hR.f14.k, hR.f15.k, hR.f16.k, hR.f17.k, hR.f18.k, hR.f19.k, hR.f20.k, hR.f21.k, hR.f22.k, hR.f23.k, hR.f24.k, hR.f25.k, hR.f26.k, hR.f27.k, hR.f28.k, hR.f29.k, hR.f30.k, hR.f31.k, hR.f32.k, hR.f33.k, hR.f34.k, hR.f35.k, hR.f36.k, hR.f37.k, hR.f38.k, hR.f39.k, hR.f40.k, hR.f41.k, hR.f42.k⟩⟩
  refine EachOf.cons [8] rfl (by kernel_rfl) ?_ ?_
  ·rintro L A W ⟨v, rfl, hR⟩ hi hw K hK
   have e8 := hR.f8 (hw 8 (by simp))
   simp only [e8]
   clear e8
   have q0 := (hR.st.cell (p := ⟨G i, R, none⟩) LA.out.2).trans LA.out.1
   go_simp
   refine hK.out _ _ ?_
   exact ⟨(fun jz => if jz = 21 then .pointer (some ⟨G i, R, none⟩) else if jz = 22 then .int .i64 va else v jz), rfl, ⟨hR.st, hR.w1.o, hR.w2.o, hR.w3.o, hR.w5.o, hR.w6.o, hR.w8.o, (fun _ j hj => upd_on (hw j hj)), hR.w11.o, hR.w12.o, hR.w13.o, hR.w15.o, hR.w16.o, hR.w18.o, hR.w19.o, hR.w21.o, hR.w22.o, hR.w23.o, hR.w25.o, hR.w26.o, hR.w28.o, hR.w29.o, hR.w31.o, hR.w32.o, hR.w33.o, hR.w35.o, hR.w36.o, hR.w38.o, hR.w39.o, hR.w40.o, hR.w41.o, hR.w42.o, hR.f0.k, hR.f1.k, hR.f2.k, hR.f3.k, hR.f4.k, hR.f5.k, hR.f6.k, hR.f7.k, (fun _ => rfl), (fun _ => rfl), hR.f10.k, hR.f11.k, hR.f12.k, hR.f13.k, hR.f14.k, hR.f15.k, hR.f16.k, hR.f17.k, hR.f18.k, hR.f19.k, hR.f20.k, hR.f21.k, hR.f22.k, hR.f23.k, hR.f24.k, hR.f25.k, hR.f26.k, hR.f27.k, hR.f28.k, hR.f29.k, hR.f30.k, hR.f31.k, hR.f32.k, hR.f33.k, hR.f34.k, hR.f35.k, hR.f36.k, hR.f37.k, hR.f38.k, hR.f39.k, hR.f40.k, hR.f41.k, hR.f42.k⟩⟩
  refine EachOf.cons [] rfl (by kernel_rfl) ?_ ?_
  ·rintro L A W ⟨v, rfl, hR⟩ hi hw K hK
   go_simp
   refine hK.out _ _ ?_
   exact ⟨(fun jz => if jz = 23 then .pointer (some ⟨tb, 0, none⟩) else v jz), rfl, ⟨hR.st, hR.w1.o, hR.w2.o, hR.w3.o, hR.w5.o, hR.w6.o, hR.w8.o, hR.w9.o, hR.w11.o, hR.w12.o, hR.w13.o, hR.w15.o, hR.w16.o, hR.w18.o, hR.w19.o, hR.w21.o, hR.w22.o, hR.w23.o, hR.w25.o, hR.w26.o, hR.w28.o, hR.w29.o, hR.w31.o, hR.w32.o, hR.w33.o, hR.w35.o, hR.w36.o, hR.w38.o, hR.w39.o, hR.w40.o, hR.w41.o, hR.w42.o, hR.f0.k, hR.f1.k, hR.f2.k, hR.f3.k, hR.f4.k, hR.f5.k, hR.f6.k, hR.f7.k, hR.f8.k, hR.f9.k, (fun _ => rfl), hR.f11.k, hR.f12.k, hR.f13.k, hR.f14.k, hR.f15.k, hR.f16.k, hR.f17.k, hR.f18.k, hR.f19.k, hR.f20.k, hR.f21.k, hR.f22.k, hR.f23.k, hR.f24.k, hR.f25.k, hR.f26.k, hR.f27.k, hR.f28.k, hR.f29.k, hR.f30.k, hR.f31.k, hR.f32.k, hR.f33.k, hR.f34.k, hR.f35.k, hR.f36.k, hR.f37.k, hR.f38.k, hR.f39.k, hR.f40.k, hR.f41.k, hR.f42.k⟩⟩
  refine EachOf.cons [10] rfl (by kernel_rfl) ?_ ?_
  ·rintro L A W ⟨v, rfl, hR⟩ hi hw K hK
   have e10 := hR.f10 (hw 10 (by simp))
   simp only [e10]
   clear e10
   go_simp
   refine hK.out _ _ ?_
   exact ⟨(fun jz => if jz = 23 then .pointer (some ⟨tb, 0, none⟩) else if jz = 24 then .pointer (some ⟨tb, 0, none⟩) else v jz), rfl, ⟨hR.st, hR.w1.o, hR.w2.o, hR.w3.o, hR.w5.o, hR.w6.o, hR.w8.o, hR.w9.o, (fun _ j hj => upd_on (hw j hj)), hR.w12.o, hR.w13.o, hR.w15.o, hR.w16.o, hR.w18.o, hR.w19.o, hR.w21.o, hR.w22.o, hR.w23.o, hR.w25.o, hR.w26.o, hR.w28.o, hR.w29.o, hR.w31.o, hR.w32.o, hR.w33.o, hR.w35.o, hR.w36.o, hR.w38.o, hR.w39.o, hR.w40.o, hR.w41.o, hR.w42.o, hR.f0.k, hR.f1.k, hR.f2.k, hR.f3.k, hR.f4.k, hR.f5.k, hR.f6.k, hR.f7.k, hR.f8.k, hR.f9.k, (fun _ => rfl), (fun _ => rfl), hR.f12.k, hR.f13.k, hR.f14.k, hR.f15.k, hR.f16.k, hR.f17.k, hR.f18.k, hR.f19.k, hR.f20.k, hR.f21.k, hR.f22.k, hR.f23.k, hR.f24.k, hR.f25.k, hR.f26.k, hR.f27.k, hR.f28.k, hR.f29.k, hR.f30.k, hR.f31.k, hR.f32.k, hR.f33.k, hR.f34.k, hR.f35.k, hR.f36.k, hR.f37.k, hR.f38.k, hR.f39.k, hR.f40.k, hR.f41.k, hR.f42.k⟩⟩
  refine EachOf.cons [11] rfl (by kernel_rfl) ?_ ?_
  ·rintro L A W ⟨v, rfl, hR⟩ hi hw K hK
   have e11 := hR.f11 (hw 11 (by simp))
   simp only [e11]
   clear e11
   go_simp
   refine hK.out _ _ ?_
   exact ⟨(fun jz => if jz = 24 then .pointer (some ⟨tb, 0, none⟩) else if jz = 25 then .pointer (some ⟨tb, 0, none⟩) else v jz), rfl, ⟨hR.st, hR.w1.o, hR.w2.o, hR.w3.o, hR.w5.o, hR.w6.o, hR.w8.o, hR.w9.o, hR.w11.o, (fun _ j hj => upd_on (hw j hj)), hR.w13.o, hR.w15.o, hR.w16.o, hR.w18.o, hR.w19.o, hR.w21.o, hR.w22.o, hR.w23.o, hR.w25.o, hR.w26.o, hR.w28.o, hR.w29.o, hR.w31.o, hR.w32.o, hR.w33.o, hR.w35.o, hR.w36.o, hR.w38.o, hR.w39.o, hR.w40.o, hR.w41.o, hR.w42.o, hR.f0.k, hR.f1.k, hR.f2.k, hR.f3.k, hR.f4.k, hR.f5.k, hR.f6.k, hR.f7.k, hR.f8.k, hR.f9.k, hR.f10.k, (fun _ => rfl), (fun _ => rfl), hR.f13.k, hR.f14.k, hR.f15.k, hR.f16.k, hR.f17.k, hR.f18.k, hR.f19.k, hR.f20.k, hR.f21.k, hR.f22.k, hR.f23.k, hR.f24.k, hR.f25.k, hR.f26.k, hR.f27.k, hR.f28.k, hR.f29.k, hR.f30.k, hR.f31.k, hR.f32.k, hR.f33.k, hR.f34.k, hR.f35.k, hR.f36.k, hR.f37.k, hR.f38.k, hR.f39.k, hR.f40.k, hR.f41.k, hR.f42.k⟩⟩
  refine EachOf.cons [12] rfl (by kernel_rfl) ?_ ?_
  ·rintro L A W ⟨v, rfl, hR⟩ hi hw K hK
   have e12 := hR.f12 (hw 12 (by simp))
   simp only [e12]
   clear e12
   have q0 := (hR.st.cell (p := ⟨tb, 0, none⟩) L0.out.2).trans L0.out.1
   go_simp
   refine hK.out _ _ ?_
   exact ⟨(fun jz => if jz = 25 then .pointer (some ⟨tb, 0, none⟩) else if jz = 26 then .slice (some ⟨rb, 0, none⟩) (m + 2) (Cb) else v jz), rfl, ⟨hR.st, hR.w1.o, hR.w2.o, hR.w3.o, hR.w5.o, hR.w6.o, hR.w8.o, hR.w9.o, hR.w11.o, hR.w12.o, (fun _ j hj => upd_on (hw j hj)), hR.w15.o, hR.w16.o, hR.w18.o, hR.w19.o, hR.w21.o, hR.w22.o, hR.w23.o, hR.w25.o, hR.w26.o, hR.w28.o, hR.w29.o, hR.w31.o, hR.w32.o, hR.w33.o, hR.w35.o, hR.w36.o, hR.w38.o, hR.w39.o, hR.w40.o, hR.w41.o, hR.w42.o, hR.f0.k, hR.f1.k, hR.f2.k, hR.f3.k, hR.f4.k, hR.f5.k, hR.f6.k, hR.f7.k, hR.f8.k, hR.f9.k, hR.f10.k, hR.f11.k, (fun _ => rfl), (fun _ => rfl), hR.f14.k, hR.f15.k, hR.f16.k, hR.f17.k, hR.f18.k, hR.f19.k, hR.f20.k, hR.f21.k, hR.f22.k, hR.f23.k, hR.f24.k, hR.f25.k, hR.f26.k, hR.f27.k, hR.f28.k, hR.f29.k, hR.f30.k, hR.f31.k, hR.f32.k, hR.f33.k, hR.f34.k, hR.f35.k, hR.f36.k, hR.f37.k, hR.f38.k, hR.f39.k, hR.f40.k, hR.f41.k, hR.f42.k⟩⟩
  refine EachOf.cons [] rfl (by kernel_rfl) ?_ ?_
  ·rintro L A W ⟨v, rfl, hR⟩ hi hw K hK
   go_simp
   refine hK.out _ _ ?_
   exact ⟨(fun jz => if jz = 27 then .int .i64 (k : Int) else v jz), rfl, ⟨hR.st, hR.w1.o, hR.w2.o, hR.w3.o, hR.w5.o, hR.w6.o, hR.w8.o, hR.w9.o, hR.w11.o, hR.w12.o, hR.w13.o, hR.w15.o, hR.w16.o, hR.w18.o, hR.w19.o, hR.w21.o, hR.w22.o, hR.w23.o, hR.w25.o, hR.w26.o, hR.w28.o, hR.w29.o, hR.w31.o, hR.w32.o, hR.w33.o, hR.w35.o, hR.w36.o, hR.w38.o, hR.w39.o, hR.w40.o, hR.w41.o, hR.w42.o, hR.f0.k, hR.f1.k, hR.f2.k, hR.f3.k, hR.f4.k, hR.f5.k, hR.f6.k, hR.f7.k, hR.f8.k, hR.f9.k, hR.f10.k, hR.f11.k, hR.f12.k, hR.f13.k, (fun _ => rfl), hR.f15.k, hR.f16.k, hR.f17.k, hR.f18.k, hR.f19.k, hR.f20.k, hR.f21.k, hR.f22.k, hR.f23.k, hR.f24.k, hR.f25.k, hR.f26.k, hR.f27.k, hR.f28.k, hR.f29.k, hR.f30.k, hR.f31.k, hR.f32.k, hR.f33.k, hR.f34.k, hR.f35.k, hR.f36.k, hR.f37.k, hR.f38.k, hR.f39.k, hR.f40.k, hR.f41.k, hR.f42.k⟩⟩
  refine EachOf.cons [13, 14] rfl (by kernel_rfl) ?_ ?_
  ·rintro L A W ⟨v, rfl, hR⟩ hi hw K hK
   have e13 := hR.f13 (hw 13 (by simp))
   have e14 := hR.f14 (hw 14 (by simp))
   simp only [e13, e14]
   clear e13 e14
   go_simp
   refine hK.out _ _ ?_
   exact ⟨(fun jz => if jz = 26 then .slice (some ⟨rb, 0, none⟩) (m + 2) (Cb) else if jz = 27 then .int .i64 (k : Int) else if jz = 28 then .pointer (some ⟨rb, k, none⟩) else v jz), rfl, ⟨hR.st, hR.w1.o, hR.w2.o, hR.w3.o, hR.w5.o, hR.w6.o, hR.w8.o, hR.w9.o, hR.w11.o, hR.w12.o, hR.w13.o, (fun _ j hj => upd_on (hw j hj)), hR.w16.o, hR.w18.o, hR.w19.o, hR.w21.o, hR.w22.o, hR.w23.o, hR.w25.o, hR.w26.o, hR.w28.o, hR.w29.o, hR.w31.o, hR.w32.o, hR.w33.o, hR.w35.o, hR.w36.o, hR.w38.o, hR.w39.o, hR.w40.o, hR.w41.o, hR.w42.o, hR.f0.k, hR.f1.k, hR.f2.k, hR.f3.k, hR.f4.k, hR.f5.k, hR.f6.k, hR.f7.k, hR.f8.k, hR.f9.k, hR.f10.k, hR.f11.k, hR.f12.k, (fun _ => rfl), (fun _ => rfl), (fun _ => rfl), hR.f16.k, hR.f17.k, hR.f18.k, hR.f19.k, hR.f20.k, hR.f21.k, hR.f22.k, hR.f23.k, hR.f24.k, hR.f25.k, hR.f26.k, hR.f27.k, hR.f28.k, hR.f29.k, hR.f30.k, hR.f31.k, hR.f32.k, hR.f33.k, hR.f34.k, hR.f35.k, hR.f36.k, hR.f37.k, hR.f38.k, hR.f39.k, hR.f40.k, hR.f41.k, hR.f42.k⟩⟩
  refine EachOf.cons [15] rfl (by kernel_rfl) ?_ ?_
  ·rintro L A W ⟨v, rfl, hR⟩ hi hw K hK
   have e15 := hR.f15 (hw 15 (by simp))
   simp only [e15]
   clear e15
   have q0 := (hR.st.cell (p := ⟨rb, k, none⟩) LK.out.2).trans LK.out.1
   go_simp
   refine hK.out _ _ ?_
   exact ⟨(fun jz => if jz = 28 then .pointer (some ⟨rb, k, none⟩) else if jz = 29 then .slice (some ⟨G k, 0, none⟩) (wd) (C k) else v jz), rfl, ⟨hR.st, hR.w1.o, hR.w2.o, hR.w3.o, hR.w5.o, hR.w6.o, hR.w8.o, hR.w9.o, hR.w11.o, hR.w12.o, hR.w13.o, hR.w15.o, (fun _ j hj => upd_on (hw j hj)), hR.w18.o, hR.w19.o, hR.w21.o, hR.w22.o, hR.w23.o, hR.w25.o, hR.w26.o, hR.w28.o, hR.w29.o, hR.w31.o, hR.w32.o, hR.w33.o, hR.w35.o, hR.w36.o, hR.w38.o, hR.w39.o, hR.w40.o, hR.w41.o, hR.w42.o, hR.f0.k, hR.f1.k, hR.f2.k, hR.f3.k, hR.f4.k, hR.f5.k, hR.f6.k, hR.f7.k, hR.f8.k, hR.f9.k, hR.f10.k, hR.f11.k, hR.f12.k, hR.f13.k, hR.f14.k, (fun _ => rfl), (fun _ => rfl), hR.f17.k, hR.f18.k, hR.f19.k, hR.f20.k, hR.f21.k, hR.f22.k, hR.f23.k, hR.f24.k, hR.f25.k, hR.f26.k, hR.f27.k, hR.f28.k, hR.f29.k, hR.f30.k, hR.f31.k, hR.f32.k, hR.f33.k, hR.f34.k, hR.f35.k, hR.f36.k, hR.f37.k, hR.f38.k, hR.f39.k, hR.f40.k, hR.f41.k, hR.f42.k⟩⟩
  refine EachOf.cons [] rfl (by kernel_rfl) ?_ ?_
  ·rintro L A W ⟨v, rfl, hR⟩ hi hw K hK
   go_simp
   refine hK.out _ _ ?_
   exact ⟨(fun jz => if jz = 30 then .int .i64 (s : Int) else v jz), rfl, ⟨hR.st, hR.w1.o, hR.w2.o, hR.w3.o, hR.w5.o, hR.w6.o, hR.w8.o, hR.w9.o, hR.w11.o, hR.w12.o, hR.w13.o, hR.w15.o, hR.w16.o, hR.w18.o, hR.w19.o, hR.w21.o, hR.w22.o, hR.w23.o, hR.w25.o, hR.w26.o, hR.w28.o, hR.w29.o, hR.w31.o, hR.w32.o, hR.w33.o, hR.w35.o, hR.w36.o, hR.w38.o, hR.w39.o, hR.w40.o, hR.w41.o, hR.w42.o, hR.f0.k, hR.f1.k, hR.f2.k, hR.f3.k, hR.f4.k, hR.f5.k, hR.f6.k, hR.f7.k, hR.f8.k, hR.f9.k, hR.f10.k, hR.f11.k, hR.f12.k, hR.f13.k, hR.f14.k, hR.f15.k, hR.f16.k, (fun _ => rfl), hR.f18.k, hR.f19.k, hR.f20.k, hR.f21.k, hR.f22.k, hR.f23.k, hR.f24.k, hR.f25.k, hR.f26.k, hR.f27.k, hR.f28.k, hR.f29.k, hR.f30.k, hR.f31.k, hR.f32.k, hR.f33.k, hR.f34.k, hR.f35.k, hR.f36.k, hR.f37.k, hR.f38.k, hR.f39.k, hR.f40.k, hR.f41.k, hR.f42.k⟩⟩
  refine EachOf.cons [16, 17] rfl (by kernel_rfl) ?_ ?_
  ·rintro L A W ⟨v, rfl, hR⟩ hi hw K hK
   have e16 := hR.f16 (hw 16 (by simp))
   have e17 := hR.f17 (hw 17 (by simp))
   simp only [e16, e17]
   clear e16 e17
   go_simp
   refine hK.out _ _ ?_
   exact ⟨(fun jz => if jz = 29 then .slice (some ⟨G k, 0, none⟩) (wd) (C k) else if jz = 30 then .int .i64 (s : Int) else if jz = 31 then .pointer (some ⟨G k, s, none⟩) else v jz), rfl, ⟨hR.st, hR.w1.o, hR.w2.o, hR.w3.o, hR.w5.o, hR.w6.o, hR.w8.o, hR.w9.o, hR.w11.o, hR.w12.o, hR.w13.o, hR.w15.o, hR.w16.o, (fun _ j hj => upd_on (hw j hj)), hR.w19.o, hR.w21.o, hR.w22.o, hR.w23.o, hR.w25.o, hR.w26.o, hR.w28.o, hR.w29.o, hR.w31.o, hR.w32.o, hR.w33.o, hR.w35.o, hR.w36.o, hR.w38.o, hR.w39.o, hR.w40.o, hR.w41.o, hR.w42.o, hR.f0.k, hR.f1.k, hR.f2.k, hR.f3.k, hR.f4.k, hR.f5.k, hR.f6.k, hR.f7.k, hR.f8.k, hR.f9.k, hR.f10.k, hR.f11.k, hR.f12.k, hR.f13.k, hR.f14.k, hR.f15.k, (fun _ => rfl), (fun _ => rfl), (fun _ => rfl), hR.f19.k, hR.f20.k, hR.f21.k, hR.f22.k, hR.f23.k, hR.f24.k, hR.f25.k, hR.f26.k, hR.f27.k, hR.f28.k, hR.f29.k, hR.f30.k, hR.f31.k, hR.f32.k, hR.f33.k, hR.f34.k, hR.f35.k, hR.f36.k, hR.f37.k, hR.f38.k, hR.f39.k, hR.f40.k, hR.f41.k, hR.f42.k⟩⟩
  refine EachOf.cons [18] rfl (by kernel_rfl) ?_ ?_
  ·rintro L A W ⟨v, rfl, hR⟩ hi hw K hK
   have e18 := hR.f18 (hw 18 (by simp))
   simp only [e18]
   clear e18
   have q0 := (hR.st.cell (p := ⟨G k, s, none⟩) LB.out.2).trans LB.out.1
   go_simp
   refine hK.out _ _ ?_
   exact ⟨(fun jz => if jz = 31 then .pointer (some ⟨G k, s, none⟩) else if jz = 32 then .int .i64 vb else v jz), rfl, ⟨hR.st, hR.w1.o, hR.w2.o, hR.w3.o, hR.w5.o, hR.w6.o, hR.w8.o, hR.w9.o, hR.w11.o, hR.w12.o, hR.w13.o, hR.w15.o, hR.w16.o, hR.w18.o, (fun _ j hj => upd_on (hw j hj)), hR.w21.o, hR.w22.o, hR.w23.o, hR.w25.o, hR.w26.o, hR.w28.o, hR.w29.o, hR.w31.o, hR.w32.o, hR.w33.o, hR.w35.o, hR.w36.o, hR.w38.o, hR.w39.o, hR.w40.o, hR.w41.o, hR.w42.o, hR.f0.k, hR.f1.k, hR.f2.k, hR.f3.k, hR.f4.k, hR.f5.k, hR.f6.k, hR.f7.k, hR.f8.k, hR.f9.k, hR.f10.k, hR.f11.k, hR.f12.k, hR.f13.k, hR.f14.k, hR.f15.k, hR.f16.k, hR.f17.k, (fun _ => rfl), (fun _ => rfl), hR.f20.k, hR.f21.k, hR.f22.k, hR.f23.k, hR.f24.k, hR.f25.k, hR.f26.k, hR.f27.k, hR.f28.k, hR.f29.k, hR.f30.k, hR.f31.k, hR.f32.k, hR.f33.k, hR.f34.k, hR.f35.k, hR.f36.k, hR.f37.k, hR.f38.k, hR.f39.k, hR.f40.k, hR.f41.k, hR.f42.k⟩⟩
  refine EachOf.cons [] rfl (by kernel_rfl) ?_ ?_
  ·rintro L A W ⟨v, rfl, hR⟩ hi hw K hK
   go_simp
   refine hK.out _ _ ?_
   exact ⟨(fun jz => if jz = 33 then .pointer (some ⟨tb, 0, none⟩) else v jz), rfl, ⟨hR.st, hR.w1.o, hR.w2.o, hR.w3.o, hR.w5.o, hR.w6.o, hR.w8.o, hR.w9.o, hR.w11.o, hR.w12.o, hR.w13.o, hR.w15.o, hR.w16.o, hR.w18.o, hR.w19.o, hR.w21.o, hR.w22.o, hR.w23.o, hR.w25.o, hR.w26.o, hR.w28.o, hR.w29.o, hR.w31.o, hR.w32.o, hR.w33.o, hR.w35.o, hR.w36.o, hR.w38.o, hR.w39.o, hR.w40.o, hR.w41.o, hR.w42.o, hR.f0.k, hR.f1.k, hR.f2.k, hR.f3.k, hR.f4.k, hR.f5.k, hR.f6.k, hR.f7.k, hR.f8.k, hR.f9.k, hR.f10.k, hR.f11.k, hR.f12.k, hR.f13.k, hR.f14.k, hR.f15.k, hR.f16.k, hR.f17.k, hR.f18.k, hR.f19.k, (fun _ => rfl), hR.f21.k, hR.f22.k, hR.f23.k, hR.f24.k, hR.f25.k, hR.f26.k, hR.f27.k, hR.f28.k, hR.f29.k, hR.f30.k, hR.f31.k, hR.f32.k, hR.f33.k, hR.f34.k, hR.f35.k, hR.f36.k, hR.f37.k, hR.f38.k, hR.f39.k, hR.f40.k, hR.f41.k, hR.f42.k⟩⟩
  refine EachOf.cons [20] rfl (by kernel_rfl) ?_ ?_
  ·rintro L A W ⟨v, rfl, hR⟩ hi hw K hK
   have e20 := hR.f20 (hw 20 (by simp))
   simp only [e20]
   clear e20
   go_simp
   refine hK.out _ _ ?_
   exact ⟨(fun jz => if jz = 33 then .pointer (some ⟨tb, 0, none⟩) else if jz = 34 then .pointer (some ⟨tb, 0, none⟩) else v jz), rfl, ⟨hR.st, hR.w1.o, hR.w2.o, hR.w3.o, hR.w5.o, hR.w6.o, hR.w8.o, hR.w9.o, hR.w11.o, hR.w12.o, hR.w13.o, hR.w15.o, hR.w16.o, hR.w18.o, hR.w19.o, (fun _ j hj => upd_on (hw j hj)), hR.w22.o, hR.w23.o, hR.w25.o, hR.w26.o, hR.w28.o, hR.w29.o, hR.w31.o, hR.w32.o, hR.w33.o, hR.w35.o, hR.w36.o, hR.w38.o, hR.w39.o, hR.w40.o, hR.w41.o, hR.w42.o, hR.f0.k, hR.f1.k, hR.f2.k, hR.f3.k, hR.f4.k, hR.f5.k, hR.f6.k, hR.f7.k, hR.f8.k, hR.f9.k, hR.f10.k, hR.f11.k, hR.f12.k, hR.f13.k, hR.f14.k, hR.f15.k, hR.f16.k, hR.f17.k, hR.f18.k, hR.f19.k, (fun _ => rfl), (fun _ => rfl), hR.f22.k, hR.f23.k, hR.f24.k, hR.f25.k, hR.f26.k, hR.f27.k, hR.f28.k, hR.f29.k, hR.f30.k, hR.f31.k, hR.f32.k, hR.f33.k, hR.f34.k, hR.f35.k, hR.f36.k, hR.f37.k, hR.f38.k, hR.f39.k, hR.f40.k, hR.f41.k, hR.f42.k⟩⟩
  refine EachOf.cons [21] rfl (by kernel_rfl) ?_ ?_
  ·rintro L A W ⟨v, rfl, hR⟩ hi hw K hK
   have e21 := hR.f21 (hw 21 (by simp))
   simp only [e21]
   clear e21
   go_simp
   refine hK.out _ _ ?_
   exact ⟨(fun jz => if jz = 34 then .pointer (some ⟨tb, 0, none⟩) else if jz = 35 then .pointer (some ⟨tb, 0, none⟩) else v jz), rfl, ⟨hR.st, hR.w1.o, hR.w2.o, hR.w3.o, hR.w5.o, hR.w6.o, hR.w8.o, hR.w9.o, hR.w11.o, hR.w12.o, hR.w13.o, hR.w15.o, hR.w16.o, hR.w18.o, hR.w19.o, hR.w21.o, (fun _ j hj => upd_on (hw j hj)), hR.w23.o, hR.w25.o, hR.w26.o, hR.w28.o, hR.w29.o, hR.w31.o, hR.w32.o, hR.w33.o, hR.w35.o, hR.w36.o, hR.w38.o, hR.w39.o, hR.w40.o, hR.w41.o, hR.w42.o, hR.f0.k, hR.f1.k, hR.f2.k, hR.f3.k, hR.f4.k, hR.f5.k, hR.f6.k, hR.f7.k, hR.f8.k, hR.f9.k, hR.f10.k, hR.f11.k, hR.f12.k, hR.f13.k, hR.f14.k, hR.f15.k, hR.f16.k, hR.f17.k, hR.f18.k, hR.f19.k, hR.f20.k, (fun _ => rfl), (fun _ => rfl), hR.f23.k, hR.f24.k, hR.f25.k, hR.f26.k, hR.f27.k, hR.f28.k, hR.f29.k, hR.f30.k, hR.f31.k, hR.f32.k, hR.f33.k, hR.f34.k, hR.f35.k, hR.f36.k, hR.f37.k, hR.f38.k, hR.f39.k, hR.f40.k, hR.f41.k, hR.f42.k⟩⟩
  refine EachOf.cons [22] rfl (by kernel_rfl) ?_ ?_
  ·rintro L A W ⟨v, rfl, hR⟩ hi hw K hK
   have e22 := hR.f22 (hw 22 (by simp))
   simp only [e22]
   clear e22
   have q0 := (hR.st.cell (p := ⟨tb, 0, none⟩) L0.out.2).trans L0.out.1
   go_simp
   refine hK.out _ _ ?_
   exact ⟨(fun jz => if jz = 35 then .pointer (some ⟨tb, 0, none⟩) else if jz = 36 then .slice (some ⟨rb, 0, none⟩) (m + 2) (Cb) else v jz), rfl, ⟨hR.st, hR.w1.o, hR.w2.o, hR.w3.o, hR.w5.o, hR.w6.o, hR.w8.o, hR.w9.o, hR.w11.o, hR.w12.o, hR.w13.o, hR.w15.o, hR.w16.o, hR.w18.o, hR.w19.o, hR.w21.o, hR.w22.o, (fun _ j hj => upd_on (hw j hj)), hR.w25.o, hR.w26.o, hR.w28.o, hR.w29.o, hR.w31.o, hR.w32.o, hR.w33.o, hR.w35.o, hR.w36.o, hR.w38.o, hR.w39.o, hR.w40.o, hR.w41.o, hR.w42.o, hR.f0.k, hR.f1.k, hR.f2.k, hR.f3.k, hR.f4.k, hR.f5.k, hR.f6.k, hR.f7.k, hR.f8.k, hR.f9.k, hR.f10.k, hR.f11.k, hR.f12.k, hR.f13.k, hR.f14.k, hR.f15.k, hR.f16.k, hR.f17.k, hR.f18.k, hR.f19.k, hR.f20.k, hR.f21.k, (fun _ => rfl), (fun _ => rfl), hR.f24.k, hR.f25.k, hR.f26.k, hR.f27.k, hR.f28.k, hR.f29.k, hR.f30.k, hR.f31.k, hR.f32.k, hR.f33.k, hR.f34.k, hR.f35.k, hR.f36.k, hR.f37.k, hR.f38.k, hR.f39.k, hR.f40.k, hR.f41.k, hR.f42.k⟩⟩
  refine EachOf.cons [] rfl (by kernel_rfl) ?_ ?_
  ·rintro L A W ⟨v, rfl, hR⟩ hi hw K hK
   go_simp
   refine hK.out _ _ ?_
   exact ⟨(fun jz => if jz = 37 then .int .i64 (k : Int) else v jz), rfl, ⟨hR.st, hR.w1.o, hR.w2.o, hR.w3.o, hR.w5.o, hR.w6.o, hR.w8.o, hR.w9.o, hR.w11.o, hR.w12.o, hR.w13.o, hR.w15.o, hR.w16.o, hR.w18.o, hR.w19.o, hR.w21.o, hR.w22.o, hR.w23.o, hR.w25.o, hR.w26.o, hR.w28.o, hR.w29.o, hR.w31.o, hR.w32.o, hR.w33.o, hR.w35.o, hR.w36.o, hR.w38.o, hR.w39.o, hR.w40.o, hR.w41.o, hR.w42.o, hR.f0.k, hR.f1.k, hR.f2.k, hR.f3.k, hR.f4.k, hR.f5.k, hR.f6.k, hR.f7.k, hR.f8.k, hR.f9.k, hR.f10.k, hR.f11.k, hR.f12.k, hR.f13.k, hR.f14.k, hR.f15.k, hR.f16.k, hR.f17.k, hR.f18.k, hR.f19.k, hR.f20.k, hR.f21.k, hR.f22.k, hR.f23.k, (fun _ => rfl), hR.f25.k, hR.f26.k, hR.f27.k, hR.f28.k, hR.f29.k, hR.f30.k, hR.f31.k, hR.f32.k, hR.f33.k, hR.f34.k, hR.f35.k, hR.f36.k, hR.f37.k, hR.f38.k, hR.f39.k, hR.f40.k, hR.f41.k, hR.f42.k⟩⟩
  refine EachOf.cons [23, 24] rfl (by kernel_rfl) ?_ ?_
  ·rintro L A W ⟨v, rfl, hR⟩ hi hw K hK
   have e23 := hR.f23 (hw 23 (by simp))
   have e24 := hR.f24 (hw 24 (by simp))
   simp only [e23, e24]
   clear e23 e24
   go_simp
   refine hK.out _ _ ?_
   exact ⟨(fun jz => if jz = 36 then .slice (some ⟨rb, 0, none⟩) (m + 2) (Cb) else if jz = 37 then .int .i64 (k : Int) else if jz = 38 then .pointer (some ⟨rb, k, none⟩) else v jz), rfl, ⟨hR.st, hR.w1.o, hR.w2.o, hR.w3.o, hR.w5.o, hR.w6.o, hR.w8.o, hR.w9.o, hR.w11.o, hR.w12.o, hR.w13.o, hR.w15.o, hR.w16.o, hR.w18.o, hR.w19.o, hR.w21.o, hR.w22.o, hR.w23.o, (fun _ j hj => upd_on (hw j hj)), hR.w26.o, hR.w28.o, hR.w29.o, hR.w31.o, hR.w32.o, hR.w33.o, hR.w35.o, hR.w36.o, hR.w38.o, hR.w39.o, hR.w40.o, hR.w41.o, hR.w42.o, hR.f0.k, hR.f1.k, hR.f2.k, hR.f3.k, hR.f4.k, hR.f5.k, hR.f6.k, hR.f7.k, hR.f8.k, hR.f9.k, hR.f10.k, hR.f11.k, hR.f12.k, hR.f13.k, hR.f14.k, hR.f15.k, hR.f16.k, hR.f17.k, hR.f18.k, hR.f19.k, hR.f20.k, hR.f21.k, hR.f22.k, (fun _ => rfl), (fun _ => rfl), (fun _ => rfl), hR.f26.k, hR.f27.k, hR.f28.k, hR.f29.k, hR.f30.k, hR.f31.k, hR.f32.k, hR.f33.k, hR.f34.k, hR.f35.k, hR.f36.k, hR.f37.k, hR.f38.k, hR.f39.k, hR.f40.k, hR.f41.k, hR.f42.k⟩⟩
  refine EachOf.cons [25] rfl (by kernel_rfl) ?_ ?_
  ·rintro L A W ⟨v, rfl, hR⟩ hi hw K hK
   have e25 := hR.f25 (hw 25 (by simp))
   simp only [e25]
   clear e25
   have q0 := (hR.st.cell (p := ⟨rb, k, none⟩) LK.out.2).trans LK.out.1
   go_simp
   refine hK.out _ _ ?_
   exact ⟨(fun jz => if jz = 38 then .pointer (some ⟨rb, k, none⟩) else if jz = 39 then .slice (some ⟨G k, 0, none⟩) (wd) (C k) else v jz), rfl, ⟨hR.st, hR.w1.o, hR.w2.o, hR.w3.o, hR.w5.o, hR.w6.o, hR.w8.o, hR.w9.o, hR.w11.o, hR.w12.o, hR.w13.o, hR.w15.o, hR.w16.o, hR.w18.o, hR.w19.o, hR.w21.o, hR.w22.o, hR.w23.o, hR.w25.o, (fun _ j hj => upd_on (hw j hj)), hR.w28.o, hR.w29.o, hR.w31.o, hR.w32.o, hR.w33.o, hR.w35.o, hR.w36.o, hR.w38.o, hR.w39.o, hR.w40.o, hR.w41.o, hR.w42.o, hR.f0.k, hR.f1.k, hR.f2.k, hR.f3.k, hR.f4.k, hR.f5.k, hR.f6.k, hR.f7.k, hR.f8.k, hR.f9.k, hR.f10.k, hR.f11.k, hR.f12.k, hR.f13.k, hR.f14.k, hR.f15.k, hR.f16.k, hR.f17.k, hR.f18.k, hR.f19.k, hR.f20.k, hR.f21.k, hR.f22.k, hR.f23.k, hR.f24.k, (fun _ => rfl), (fun _ => rfl), hR.f27.k, hR.f28.k, hR.f29.k, hR.f30.k, hR.f31.k, hR.f32.k, hR.f33.k, hR.f34.k, hR.f35.k, hR.f36.k, hR.f37.k, hR.f38.k, hR.f39.k, hR.f40.k, hR.f41.k, hR.f42.k⟩⟩
  refine EachOf.cons [] rfl (by kernel_rfl) ?_ ?_
  ·rintro L A W ⟨v, rfl, hR⟩ hi hw K hK
   go_simp
   refine hK.out _ _ ?_
   exact ⟨(fun jz => if jz = 40 then .int .i64 (R : Int) else v jz), rfl, ⟨hR.st, hR.w1.o, hR.w2.o, hR.w3.o, hR.w5.o, hR.w6.o, hR.w8.o, hR.w9.o, hR.w11.o, hR.w12.o, hR.w13.o, hR.w15.o, hR.w16.o, hR.w18.o, hR.w19.o, hR.w21.o, hR.w22.o, hR.w23.o, hR.w25.o, hR.w26.o, hR.w28.o, hR.w29.o, hR.w31.o, hR.w32.o, hR.w33.o, hR.w35.o, hR.w36.o, hR.w38.o, hR.w39.o, hR.w40.o, hR.w41.o, hR.w42.o, hR.f0.k, hR.f1.k, hR.f2.k, hR.f3.k, hR.f4.k, hR.f5.k, hR.f6.k, hR.f7.k, hR.f8.k, hR.f9.k, hR.f10.k, hR.f11.k, hR.f12.k, hR.f13.k, hR.f14.k, hR.f15.k, hR.f16.k, hR.f17.k, hR.f18.k, hR.f19.k, hR.f20.k, hR.f21.k, hR.f22.k, hR.f23.k, hR.f24.k, hR.f25.k, hR.f26.k, (fun _ => rfl), hR.f28.k, hR.f29.k, hR.f30.k, hR.f31.k, hR.f32.k, hR.f33.k, hR.f34.k, hR.f35.k, hR.f36.k, hR.f37.k, hR.f38.k, hR.f39.k, hR.f40.k, hR.f41.k, hR.f42.k⟩⟩
  refine EachOf.cons [26, 27] rfl (by kernel_rfl) ?_ ?_
  ·rintro L A W ⟨v, rfl, hR⟩ hi hw K hK
   have e26 := hR.f26 (hw 26 (by simp))
   have e27 := hR.f27 (hw 27 (by simp))
   simp only [e26, e27]
   clear e26 e27
   go_simp
   refine hK.out _ _ ?_
   exact ⟨(fun jz => if jz = 39 then .slice (some ⟨G k, 0, none⟩) (wd) (C k) else if jz = 40 then .int .i64 (R : Int) else if jz = 41 then .pointer (some ⟨G k, R, none⟩) else v jz), rfl, ⟨hR.st, hR.w1.o, hR.w2.o, hR.w3.o, hR.w5.o, hR.w6.o, hR.w8.o, hR.w9.o, hR.w11.o, hR.w12.o, hR.w13.o, hR.w15.o, hR.w16.o, hR.w18.o, hR.w19.o, hR.w21.o, hR.w22.o, hR.w23.o, hR.w25.o, hR.w26.o, (fun _ j hj => upd_on (hw j hj)), hR.w29.o, hR.w31.o, hR.w32.o, hR.w33.o, hR.w35.o, hR.w36.o, hR.w38.o, hR.w39.o, hR.w40.o, hR.w41.o, hR.w42.o, hR.f0.k, hR.f1.k, hR.f2.k, hR.f3.k, hR.f4.k, hR.f5.k, hR.f6.k, hR.f7.k, hR.f8.k, hR.f9.k, hR.f10.k, hR.f11.k, hR.f12.k, hR.f13.k, hR.f14.k, hR.f15.k, hR.f16.k, hR.f17.k, hR.f18.k, hR.f19.k, hR.f20.k, hR.f21.k, hR.f22.k, hR.f23.k, hR.f24.k, hR.f25.k, (fun _ => rfl), (fun _ => rfl), (fun _ => rfl), hR.f29.k, hR.f30.k, hR.f31.k, hR.f32.k, hR.f33.k, hR.f34.k, hR.f35.k, hR.f36.k, hR.f37.k, hR.f38.k, hR.f39.k, hR.f40.k, hR.f41.k, hR.f42.k⟩⟩
  refine EachOf.cons [28] rfl (by kernel_rfl) ?_ ?_
  ·rintro L A W ⟨v, rfl, hR⟩ hi hw K hK
   have e28 := hR.f28 (hw 28 (by simp))
   simp only [e28]
   clear e28
   have q0 := (hR.st.cell (p := ⟨G k, R, none⟩) LC.out.2).trans LC.out.1
   go_simp
   refine hK.out _ _ ?_
   exact ⟨(fun jz => if jz = 41 then .pointer (some ⟨G k, R, none⟩) else if jz = 42 then .int .i64 vc else v jz), rfl, ⟨hR.st, hR.w1.o, hR.w2.o, hR.w3.o, hR.w5.o, hR.w6.o, hR.w8.o, hR.w9.o, hR.w11.o, hR.w12.o, hR.w13.o, hR.w15.o, hR.w16.o, hR.w18.o, hR.w19.o, hR.w21.o, hR.w22.o, hR.w23.o, hR.w25.o, hR.w26.o, hR.w28.o, (fun _ j hj => upd_on (hw j hj)), hR.w31.o, hR.w32.o, hR.w33.o, hR.w35.o, hR.w36.o, hR.w38.o, hR.w39.o, hR.w40.o, hR.w41.o, hR.w42.o, hR.f0.k, hR.f1.k, hR.f2.k, hR.f3.k, hR.f4.k, hR.f5.k, hR.f6.k, hR.f7.k, hR.f8.k, hR.f9.k, hR.f10.k, hR.f11.k, hR.f12.k, hR.f13.k, hR.f14.k, hR.f15.k, hR.f16.k, hR.f17.k, hR.f18.k, hR.f19.k, hR.f20.k, hR.f21.k, hR.f22.k, hR.f23.k, hR.f24.k, hR.f25.k, hR.f26.k, hR.f27.k, (fun _ => rfl), (fun _ => rfl), hR.f30.k, hR.f31.k, hR.f32.k, hR.f33.k, hR.f34.k, hR.f35.k, hR.f36.k, hR.f37.k, hR.f38.k, hR.f39.k, hR.f40.k, hR.f41.k, hR.f42.k⟩⟩
  refine EachOf.cons [] rfl (by kernel_rfl) ?_ ?_
  ·rintro L A W ⟨v, rfl, hR⟩ hi hw K hK
   go_simp
   refine hK.out _ _ ?_
   exact ⟨(fun jz => if jz = 43 then .pointer (some ⟨tb, 0, none⟩) else v jz), rfl, ⟨hR.st, hR.w1.o, hR.w2.o, hR.w3.o, hR.w5.o, hR.w6.o, hR.w8.o, hR.w9.o, hR.w11.o, hR.w12.o, hR.w13.o, hR.w15.o, hR.w16.o, hR.w18.o, hR.w19.o, hR.w21.o, hR.w22.o, hR.w23.o, hR.w25.o, hR.w26.o, hR.w28.o, hR.w29.o, hR.w31.o, hR.w32.o, hR.w33.o, hR.w35.o, hR.w36.o, hR.w38.o, hR.w39.o, hR.w40.o, hR.w41.o, hR.w42.o, hR.f0.k, hR.f1.k, hR.f2.k, hR.f3.k, hR.f4.k, hR.f5.k, hR.f6.k, hR.f7.k, hR.f8.k, hR.f9.k, hR.f10.k, hR.f11.k, hR.f12.k, hR.f13.k, hR.f14.k, hR.f15.k, hR.f16.k, hR.f17.k, hR.f18.k, hR.f19.k, hR.f20.k, hR.f21.k, hR.f22.k, hR.f23.k, hR.f24.k, hR.f25.k, hR.f26.k, hR.f27.k, hR.f28.k, hR.f29.k, (fun _ => rfl), hR.f31.k, hR.f32.k, hR.f33.k, hR.f34.k, hR.f35.k, hR.f36.k, hR.f37.k, hR.f38.k, hR.f39.k, hR.f40.k, hR.f41.k, hR.f42.k⟩⟩
  refine EachOf.cons [30] rfl (by kernel_rfl) ?_ ?_
  ·rintro L A W ⟨v, rfl, hR⟩ hi hw K hK
   have e30 := hR.f30 (hw 30 (by simp))
   simp only [e30]
   clear e30
   go_simp
   refine hK.out _ _ ?_
   exact ⟨(fun jz => if jz = 43 then .pointer (some ⟨tb, 0, none⟩) else if jz = 44 then .pointer (some ⟨tb, 0, none⟩) else v jz), rfl, ⟨hR.st, hR.w1.o, hR.w2.o, hR.w3.o, hR.w5.o, hR.w6.o, hR.w8.o, hR.w9.o, hR.w11.o, hR.w12.o, hR.w13.o, hR.w15.o, hR.w16.o, hR.w18.o, hR.w19.o, hR.w21.o, hR.w22.o, hR.w23.o, hR.w25.o, hR.w26.o, hR.w28.o, hR.w29.o, (fun _ j hj => upd_on (hw j hj)), hR.w32.o, hR.w33.o, hR.w35.o, hR.w36.o, hR.w38.o, hR.w39.o, hR.w40.o, hR.w41.o, hR.w42.o, hR.f0.k, hR.f1.k, hR.f2.k, hR.f3.k, hR.f4.k, hR.f5.k, hR.f6.k, hR.f7.k, hR.f8.k, hR.f9.k, hR.f10.k, hR.f11.k, hR.f12.k, hR.f13.k, hR.f14.k, hR.f15.k, hR.f16.k, hR.f17.k, hR.f18.k, hR.f19.k, hR.f20.k, hR.f21.k, hR.f22.k, hR.f23.k, hR.f24.k, hR.f25.k, hR.f26.k, hR.f27.k, hR.f28.k, hR.f29.k, (fun _ => rfl), (fun _ => rfl), hR.f32.k, hR.f33.k, hR.f34.k, hR.f35.k, hR.f36.k, hR.f37.k, hR.f38.k, hR.f39.k, hR.f40.k, hR.f41.k, hR.f42.k⟩⟩
  refine EachOf.cons [31] rfl (by kernel_rfl) ?_ ?_
  ·rintro L A W ⟨v, rfl, hR⟩ hi hw K hK
   have e31 := hR.f31 (hw 31 (by simp))
   simp only [e31]
   clear e31
   go_simp
   refine hK.out _ _ ?_
   exact ⟨(fun jz => if jz = 44 then .pointer (some ⟨tb, 0, none⟩) else if jz = 45 then .pointer (some ⟨tb, 0, none⟩) else v jz), rfl, ⟨hR.st, hR.w1.o, hR.w2.o, hR.w3.o, hR.w5.o, hR.w6.o, hR.w8.o, hR.w9.o, hR.w11.o, hR.w12.o, hR.w13.o, hR.w15.o, hR.w16.o, hR.w18.o, hR.w19.o, hR.w21.o, hR.w22.o, hR.w23.o, hR.w25.o, hR.w26.o, hR.w28.o, hR.w29.o, hR.w31.o, (fun _ j hj => upd_on (hw j hj)), hR.w33.o, hR.w35.o, hR.w36.o, hR.w38.o, hR.w39.o, hR.w40.o, hR.w41.o, hR.w42.o, hR.f0.k, hR.f1.k, hR.f2.k, hR.f3.k, hR.f4.k, hR.f5.k, hR.f6.k, hR.f7.k, hR.f8.k, hR.f9.k, hR.f10.k, hR.f11.k, hR.f12.k, hR.f13.k, hR.f14.k, hR.f15.k, hR.f16.k, hR.f17.k, hR.f18.k, hR.f19.k, hR.f20.k, hR.f21.k, hR.f22.k, hR.f23.k, hR.f24.k, hR.f25.k, hR.f26.k, hR.f27.k, hR.f28.k, hR.f29.k, hR.f30.k, (fun _ => rfl), (fun _ => rfl), hR.f33.k, hR.f34.k, hR.f35.k, hR.f36.k, hR.f37.k, hR.f38.k, hR.f39.k, hR.f40.k, hR.f41.k, hR.f42.k⟩⟩
  refine EachOf.cons [32] rfl (by kernel_rfl) ?_ ?_
  ·rintro L A W ⟨v, rfl, hR⟩ hi hw K hK
   have e32 := hR.f32 (hw 32 (by simp))
   simp only [e32]
   clear e32
   have q0 := (hR.st.cell (p := ⟨tb, 0, none⟩) L0.out.2).trans L0.out.1
   go_simp
   refine hK.out _ _ ?_
   exact ⟨(fun jz => if jz = 45 then .pointer (some ⟨tb, 0, none⟩) else if jz = 46 then .slice (some ⟨rb, 0, none⟩) (m + 2) (Cb) else v jz), rfl, ⟨hR.st, hR.w1.o, hR.w2.o, hR.w3.o, hR.w5.o, hR.w6.o, hR.w8.o, hR.w9.o, hR.w11.o, hR.w12.o, hR.w13.o, hR.w15.o, hR.w16.o, hR.w18.o, hR.w19.o, hR.w21.o, hR.w22.o, hR.w23.o, hR.w25.o, hR.w26.o, hR.w28.o, hR.w29.o, hR.w31.o, hR.w32.o, (fun _ j hj => upd_on (hw j hj)), hR.w35.o, hR.w36.o, hR.w38.o, hR.w39.o, hR.w40.o, hR.w41.o, hR.w42.o, hR.f0.k, hR.f1.k, hR.f2.k, hR.f3.k, hR.f4.k, hR.f5.k, hR.f6.k, hR.f7.k, hR.f8.k, hR.f9.k, hR.f10.k, hR.f11.k, hR.f12.k, hR.f13.k, hR.f14.k, hR.f15.k, hR.f16.k, hR.f17.k, hR.f18.k, hR.f19.k, hR.f20.k, hR.f21.k, hR.f22.k, hR.f23.k, hR.f24.k, hR.f25.k, hR.f26.k, hR.f27.k, hR.f28.k, hR.f29.k, hR.f30.k, hR.f31.k, (fun _ => rfl), (fun _ => rfl), hR.f34.k, hR.f35.k, hR.f36.k, hR.f37.k, hR.f38.k, hR.f39.k, hR.f40.k, hR.f41.k, hR.f42.k⟩⟩
  refine EachOf.cons [] rfl (by kernel_rfl) ?_ ?_
  ·rintro L A W ⟨v, rfl, hR⟩ hi hw K hK
   go_simp
   refine hK.out _ _ ?_
   exact ⟨(fun jz => if jz = 47 then .int .i64 (i : Int) else v jz), rfl, ⟨hR.st, hR.w1.o, hR.w2.o, hR.w3.o, hR.w5.o, hR.w6.o, hR.w8.o, hR.w9.o, hR.w11.o, hR.w12.o, hR.w13.o, hR.w15.o, hR.w16.o, hR.w18.o, hR.w19.o, hR.w21.o, hR.w22.o, hR.w23.o, hR.w25.o, hR.w26.o, hR.w28.o, hR.w29.o, hR.w31.o, hR.w32.o, hR.w33.o, hR.w35.o, hR.w36.o, hR.w38.o, hR.w39.o, hR.w40.o, hR.w41.o, hR.w42.o, hR.f0.k, hR.f1.k, hR.f2.k, hR.f3.k, hR.f4.k, hR.f5.k, hR.f6.k, hR.f7.k, hR.f8.k, hR.f9.k, hR.f10.k, hR.f11.k, hR.f12.k, hR.f13.k, hR.f14.k, hR.f15.k, hR.f16.k, hR.f17.k, hR.f18.k, hR.f19.k, hR.f20.k, hR.f21.k, hR.f22.k, hR.f23.k, hR.f24.k, hR.f25.k, hR.f26.k, hR.f27.k, hR.f28.k, hR.f29.k, hR.f30.k, hR.f31.k, hR.f32.k, hR.f33.k, (fun _ => rfl), hR.f35.k, hR.f36.k, hR.f37.k, hR.f38.k, hR.f39.k, hR.f40.k, hR.f41.k, hR.f42.k⟩⟩
  refine EachOf.cons [33, 34] rfl (by kernel_rfl) ?_ ?_
  ·rintro L A W ⟨v, rfl, hR⟩ hi hw K hK
   have e33 := hR.f33 (hw 33 (by simp))
   have e34 := hR.f34 (hw 34 (by simp))
   simp only [e33, e34]
   clear e33 e34
   go_simp
   refine hK.out _ _ ?_
   exact ⟨(fun jz => if jz = 46 then .slice (some ⟨rb, 0, none⟩) (m + 2) (Cb) else if jz = 47 then .int .i64 (i : Int) else if jz = 48 then .pointer (some ⟨rb, i, none⟩) else v jz), rfl, ⟨hR.st, hR.w1.o, hR.w2.o, hR.w3.o, hR.w5.o, hR.w6.o, hR.w8.o, hR.w9.o, hR.w11.o, hR.w12.o, hR.w13.o, hR.w15.o, hR.w16.o, hR.w18.o, hR.w19.o, hR.w21.o, hR.w22.o, hR.w23.o, hR.w25.o, hR.w26.o, hR.w28.o, hR.w29.o, hR.w31.o, hR.w32.o, hR.w33.o, (fun _ j hj => upd_on (hw j hj)), hR.w36.o, hR.w38.o, hR.w39.o, hR.w40.o, hR.w41.o, hR.w42.o, hR.f0.k, hR.f1.k, hR.f2.k, hR.f3.k, hR.f4.k, hR.f5.k, hR.f6.k, hR.f7.k, hR.f8.k, hR.f9.k, hR.f10.k, hR.f11.k, hR.f12.k, hR.f13.k, hR.f14.k, hR.f15.k, hR.f16.k, hR.f17.k, hR.f18.k, hR.f19.k, hR.f20.k, hR.f21.k, hR.f22.k, hR.f23.k, hR.f24.k, hR.f25.k, hR.f26.k, hR.f27.k, hR.f28.k, hR.f29.k, hR.f30.k, hR.f31.k, hR.f32.k, (fun _ => rfl), (fun _ => rfl), (fun _ => rfl), hR.f36.k, hR.f37.k, hR.f38.k, hR.f39.k, hR.f40.k, hR.f41.k, hR.f42.k⟩⟩
  refine EachOf.cons [35] rfl (by kernel_rfl) ?_ ?_
  ·rintro L A W ⟨v, rfl, hR⟩ hi hw K hK
   have e35 := hR.f35 (hw 35 (by simp))
   simp only [e35]
   clear e35
   have q0 := (hR.st.cell (p := ⟨rb, i, none⟩) LI.out.2).trans LI.out.1
   go_simp
   refine hK.out _ _ ?_
   exact ⟨(fun jz => if jz = 48 then .pointer (some ⟨rb, i, none⟩) else if jz = 49 then .slice (some ⟨G i, 0, none⟩) (wd) (C i) else v jz), rfl, ⟨hR.st, hR.w1.o, hR.w2.o, hR.w3.o, hR.w5.o, hR.w6.o, hR.w8.o, hR.w9.o, hR.w11.o, hR.w12.o, hR.w13.o, hR.w15.o, hR.w16.o, hR.w18.o, hR.w19.o, hR.w21.o, hR.w22.o, hR.w23.o, hR.w25.o, hR.w26.o, hR.w28.o, hR.w29.o, hR.w31.o, hR.w32.o, hR.w33.o, hR.w35.o, (fun _ j hj => upd_on (hw j hj)), hR.w38.o, hR.w39.o, hR.w40.o, hR.w41.o, hR.w42.o, hR.f0.k, hR.f1.k, hR.f2.k, hR.f3.k, hR.f4.k, hR.f5.k, hR.f6.k, hR.f7.k, hR.f8.k, hR.f9.k, hR.f10.k, hR.f11.k, hR.f12.k, hR.f13.k, hR.f14.k, hR.f15.k, hR.f16.k, hR.f17.k, hR.f18.k, hR.f19.k, hR.f20.k, hR.f21.k, hR.f22.k, hR.f23.k, hR.f24.k, hR.f25.k, hR.f26.k, hR.f27.k, hR.f28.k, hR.f29.k, hR.f30.k, hR.f31.k, hR.f32.k, hR.f33.k, hR.f34.k, (fun _ => rfl), (fun _ => rfl), hR.f37.k, hR.f38.k, hR.f39.k, hR.f40.k, hR.f41.k, hR.f42.k⟩⟩
  refine EachOf.cons [] rfl (by kernel_rfl) ?_ ?_
  ·rintro L A W ⟨v, rfl, hR⟩ hi hw K hK
   go_simp
   refine hK.out _ _ ?_
   exact ⟨(fun jz => if jz = 50 then .int .i64 (s : Int) else v jz), rfl, ⟨hR.st, hR.w1.o, hR.w2.o, hR.w3.o, hR.w5.o, hR.w6.o, hR.w8.o, hR.w9.o, hR.w11.o, hR.w12.o, hR.w13.o, hR.w15.o, hR.w16.o, hR.w18.o, hR.w19.o, hR.w21.o, hR.w22.o, hR.w23.o, hR.w25.o, hR.w26.o, hR.w28.o, hR.w29.o, hR.w31.o, hR.w32.o, hR.w33.o, hR.w35.o, hR.w36.o, hR.w38.o, hR.w39.o, hR.w40.o, hR.w41.o, hR.w42.o, hR.f0.k, hR.f1.k, hR.f2.k, hR.f3.k, hR.f4.k, hR.f5.k, hR.f6.k, hR.f7.k, hR.f8.k, hR.f9.k, hR.f10.k, hR.f11.k, hR.f12.k, hR.f13.k, hR.f14.k, hR.f15.k, hR.f16.k, hR.f17.k, hR.f18.k, hR.f19.k, hR.f20.k, hR.f21.k, hR.f22.k, hR.f23.k, hR.f24.k, hR.f25.k, hR.f26.k, hR.f27.k, hR.f28.k, hR.f29.k, hR.f30.k, hR.f31.k, hR.f32.k, hR.f33.k, hR.f34.k, hR.f35.k, hR.f36.k, (fun _ => rfl), hR.f38.k, hR.f39.k, hR.f40.k, hR.f41.k, hR.f42.k⟩⟩
  refine EachOf.cons [36, 37] rfl (by kernel_rfl) ?_ ?_
  ·rintro L A W ⟨v, rfl, hR⟩ hi hw K hK
   have e36 := hR.f36 (hw 36 (by simp))
   have e37 := hR.f37 (hw 37 (by simp))
   simp only [e36, e37]
   clear e36 e37
   go_simp
   refine hK.out _ _ ?_
   exact ⟨(fun jz => if jz = 49 then .slice (some ⟨G i, 0, none⟩) (wd) (C i) else if jz = 50 then .int .i64 (s : Int) else if jz = 51 then .pointer (some ⟨G i, s, none⟩) else v jz), rfl, ⟨hR.st, hR.w1.o, hR.w2.o, hR.w3.o, hR.w5.o, hR.w6.o, hR.w8.o, hR.w9.o, hR.w11.o, hR.w12.o, hR.w13.o, hR.w15.o, hR.w16.o, hR.w18.o, hR.w19.o, hR.w21.o, hR.w22.o, hR.w23.o, hR.w25.o, hR.w26.o, hR.w28.o, hR.w29.o, hR.w31.o, hR.w32.o, hR.w33.o, hR.w35.o, hR.w36.o, (fun _ j hj => upd_on (hw j hj)), hR.w39.o, hR.w40.o, hR.w41.o, hR.w42.o, hR.f0.k, hR.f1.k, hR.f2.k, hR.f3.k, hR.f4.k, hR.f5.k, hR.f6.k, hR.f7.k, hR.f8.k, hR.f9.k, hR.f10.k, hR.f11.k, hR.f12.k, hR.f13.k, hR.f14.k, hR.f15.k, hR.f16.k, hR.f17.k, hR.f18.k, hR.f19.k, hR.f20.k, hR.f21.k, hR.f22.k, hR.f23.k, hR.f24.k, hR.f25.k, hR.f26.k, hR.f27.k, hR.f28.k, hR.f29.k, hR.f30.k, hR.f31.k, hR.f32.k, hR.f33.k, hR.f34.k, hR.f35.k, (fun _ => rfl), (fun _ => rfl), (fun _ => rfl), hR.f39.k, hR.f40.k, hR.f41.k, hR.f42.k⟩⟩
  refine EachOf.cons [38] rfl (by kernel_rfl) ?_ ?_
  ·rintro L A W ⟨v, rfl, hR⟩ hi hw K hK
   have e38 := hR.f38 (hw 38 (by simp))
   simp only [e38]
   clear e38
   have q0 := (hR.st.cell (p := ⟨G i, s, none⟩) LD.out.2).trans LD.out.1
   go_simp
   refine hK.out _ _ ?_
   exact ⟨(fun jz => if jz = 51 then .pointer (some ⟨G i, s, none⟩) else if jz = 52 then .int .i64 vd else v jz), rfl, ⟨hR.st, hR.w1.o, hR.w2.o, hR.w3.o, hR.w5.o, hR.w6.o, hR.w8.o, hR.w9.o, hR.w11.o, hR.w12.o, hR.w13.o, hR.w15.o, hR.w16.o, hR.w18.o, hR.w19.o, hR.w21.o, hR.w22.o, hR.w23.o, hR.w25.o, hR.w26.o, hR.w28.o, hR.w29.o, hR.w31.o, hR.w32.o, hR.w33.o, hR.w35.o, hR.w36.o, hR.w38.o, (fun _ j hj => upd_on (hw j hj)), hR.w40.o, hR.w41.o, hR.w42.o, hR.f0.k, hR.f1.k, hR.f2.k, hR.f3.k, hR.f4.k, hR.f5.k, hR.f6.k, hR.f7.k, hR.f8.k, hR.f9.k, hR.f10.k, hR.f11.k, hR.f12.k, hR.f13.k, hR.f14.k, hR.f15.k, hR.f16.k, hR.f17.k, hR.f18.k, hR.f19.k, hR.f20.k, hR.f21.k, hR.f22.k, hR.f23.k, hR.f24.k, hR.f25.k, hR.f26.k, hR.f27.k, hR.f28.k, hR.f29.k, hR.f30.k, hR.f31.k, hR.f32.k, hR.f33.k, hR.f34.k, hR.f35.k, hR.f36.k, hR.f37.k, (fun _ => rfl), (fun _ => rfl), hR.f40.k, hR.f41.k, hR.f42.k⟩⟩
  refine EachOf.cons [9, 19, 29, 39] rfl (by kernel_rfl) ?_ ?_
  ·rintro L A W ⟨v, rfl, hR⟩ hi hw K hK
   have e9 := hR.f9 (hw 9 (by simp))
   have e19 := hR.f19 (hw 19 (by simp))
   have e29 := hR.f29 (hw 29 (by simp))
   have e39 := hR.f39 (hw 39 (by simp))
   simp only [e9, e19, e29, e39]
   clear e9 e19 e29 e39
   go_simp
   go_at_call 105
   (with_reducible refine ((CX _).out).mono ?_)
   rintro e w2 ⟨rfl, hb⟩
   go_simp
   refine hK.out _ _ ?_
   exact ⟨(fun jz => if jz = 22 then .int .i64 va else if jz = 32 then .int .i64 vb else if jz = 42 then .int .i64 vc else if jz = 52 then .int .i64 vd else if jz = 53 then .agg #[.bool vg, .int .u64 vh, .int .u64 vl] else v jz), rfl, ⟨below_on hR.st hb, hR.w1.o, hR.w2.o, hR.w3.o, hR.w5.o, hR.w6.o, hR.w8.o, hR.w9.o, hR.w11.o, hR.w12.o, hR.w13.o, hR.w15.o, hR.w16.o, hR.w18.o, hR.w19.o, hR.w21.o, hR.w22.o, hR.w23.o, hR.w25.o, hR.w26.o, hR.w28.o, hR.w29.o, hR.w31.o, hR.w32.o, hR.w33.o, hR.w35.o, hR.w36.o, hR.w38.o, hR.w39.o, (fun _ j hj => upd_on (hw j hj)), hR.w41.o, hR.w42.o, hR.f0.k, hR.f1.k, hR.f2.k, hR.f3.k, hR.f4.k, hR.f5.k, hR.f6.k, hR.f7.k, hR.f8.k, (fun _ => rfl), hR.f10.k, hR.f11.k, hR.f12.k, hR.f13.k, hR.f14.k, hR.f15.k, hR.f16.k, hR.f17.k, hR.f18.k, (fun _ => rfl), hR.f20.k, hR.f21.k, hR.f22.k, hR.f23.k, hR.f24.k, hR.f25.k, hR.f26.k, hR.f27.k, hR.f28.k, (fun _ => rfl), hR.f30.k, hR.f31.k, hR.f32.k, hR.f33.k, hR.f34.k, hR.f35.k, hR.f36.k, hR.f37.k, hR.f38.k, (fun _ => rfl), (fun _ => rfl), hR.f41.k, hR.f42.k⟩⟩
  refine EachOf.cons [40] rfl (by kernel_rfl) ?_ ?_
  ·rintro L A W ⟨v, rfl, hR⟩ hi hw K hK
   have e40 := hR.f40 (hw 40 (by simp))
   simp only [e40]
   clear e40
   go_simp
   go_at_call 120
   (with_reducible refine ((CO _).out).mono ?_)
   rintro e w2 ⟨rfl, hb⟩
   go_simp
   refine hK.out _ _ ?_
   exact ⟨(fun jz => if jz = 53 then .agg #[.bool vg, .int .u64 vh, .int .u64 vl] else if jz = 54 then .int .i64 q else v jz), rfl, ⟨below_on hR.st hb, hR.w1.o, hR.w2.o, hR.w3.o, hR.w5.o, hR.w6.o, hR.w8.o, hR.w9.o, hR.w11.o, hR.w12.o, hR.w13.o, hR.w15.o, hR.w16.o, hR.w18.o, hR.w19.o, hR.w21.o, hR.w22.o, hR.w23.o, hR.w25.o, hR.w26.o, hR.w28.o, hR.w29.o, hR.w31.o, hR.w32.o, hR.w33.o, hR.w35.o, hR.w36.o, hR.w38.o, hR.w39.o, hR.w40.o, (fun _ j hj => upd_on (hw j hj)), hR.w42.o, hR.f0.k, hR.f1.k, hR.f2.k, hR.f3.k, hR.f4.k, hR.f5.k, hR.f6.k, hR.f7.k, hR.f8.k, hR.f9.k, hR.f10.k, hR.f11.k, hR.f12.k, hR.f13.k, hR.f14.k, hR.f15.k, hR.f16.k, hR.f17.k, hR.f18.k, hR.f19.k, hR.f20.k, hR.f21.k, hR.f22.k, hR.f23.k, hR.f24.k, hR.f25.k, hR.f26.k, hR.f27.k, hR.f28.k, hR.f29.k, hR.f30.k, hR.f31.k, hR.f32.k, hR.f33.k, hR.f34.k, hR.f35.k, hR.f36.k, hR.f37.k, hR.f38.k, hR.f39.k, (fun _ => rfl), (fun _ => rfl), hR.f42.k⟩⟩
  refine EachOf.cons [41] rfl (by kernel_rfl) ?_ ?_
  ·rintro L A W ⟨v, rfl, hR⟩ hi hw K hK
   have e41 := hR.f41 (hw 41 (by simp))
   simp only [e41]
   clear e41
   go_simp
   refine hK.out _ _ ?_
   exact ⟨(fun jz => if jz = 54 then .int .i64 q else if jz = 10 then .int .i64 q else v jz), rfl, ⟨hR.st, hR.w1.o, hR.w2.o, hR.w3.o, hR.w5.o, hR.w6.o, hR.w8.o, hR.w9.o, hR.w11.o, hR.w12.o, hR.w13.o, hR.w15.o, hR.w16.o, hR.w18.o, hR.w19.o, hR.w21.o, hR.w22.o, hR.w23.o, hR.w25.o, hR.w26.o, hR.w28.o, hR.w29.o, hR.w31.o, hR.w32.o, hR.w33.o, hR.w35.o, hR.w36.o, hR.w38.o, hR.w39.o, hR.w40.o, hR.w41.o, (fun _ j hj => upd_on (hw j hj)), hR.f0.k, hR.f1.k, hR.f2.k, hR.f3.k, hR.f4.k, hR.f5.k, hR.f6.k, hR.f7.k, hR.f8.k, hR.f9.k, hR.f10.k, hR.f11.k, hR.f12.k, hR.f13.k, hR.f14.k, hR.f15.k, hR.f16.k, hR.f17.k, hR.f18.k, hR.f19.k, hR.f20.k, hR.f21.k, hR.f22.k, hR.f23.k, hR.f24.k, hR.f25.k, hR.f26.k, hR.f27.k, hR.f28.k, hR.f29.k, hR.f30.k, hR.f31.k, hR.f32.k, hR.f33.k, hR.f34.k, hR.f35.k, hR.f36.k, hR.f37.k, hR.f38.k, hR.f39.k, hR.f40.k, (fun _ => rfl), (fun _ => rfl)⟩⟩
  exact EachOf.nil
 rintro L A W ⟨v, rfl, hR⟩ hL
 have e54 := hR.f42 (hL 42 (by simp))
 have hb3 := hR.st
 simp only [e54]
 have HS3 := Lib.hid (HS2.out.on hb3)
 have HB3 := Lib.hid (below_on HBX.out hb3)
 clear e54 hb3 hR hL L0 LI LK LA LB LC LD CX CO HS2 HBX
 have p0 := HS3.out.t.c1
 rw [HS3.out.ba.ad (by omega)] at p0
 have p1 := HS3.out.ba.cell i hi
 have p2 := HS3.out.ba.cell k hk
 clear l1 l2 l3 l4
 rcases Int.lt_trichotomy z 0 with h | h | h
 ·have eq : q = -1 := by rw [← HQ.out]; unfold sgn; rw [if_neg (by omega), if_pos h]
  subst eq
  have ed : decide (z < 0 ∨ (z = 0 ∧ β i < β k)) = true := decide_eq_true (.inl h)
  have e2 := HTB.out
  rw [ed] at e2
  clear ed h HQ HTB
  generalize β i = x at *
  generalize β k = y at *
  subst e2
  go_upto_region 3 with fail
  go_quiet (fail)
  go_wp2
  go_ret
  exact ⟨rfl, below_drewN' HB3.out _⟩
 ·have eq : q = 0 := by rw [← HQ.out]; unfold sgn; rw [if_pos h]
  subst eq
  have ed : decide (z < 0 ∨ (z = 0 ∧ β i < β k)) = decide (β i < β k) := by rw [h]; simp
  have e2 := HTB.out
  rw [ed] at e2
  clear ed h HQ HTB
  generalize β i = x at *
  generalize β k = y at *
  subst e2
  go_upto_region 3 with fail
  go_quiet (fail)
  go_wp2
  go_ret
  exact ⟨by simp, below_drewN' HB3.out _⟩
 ·have eq : q = 1 := by rw [← HQ.out]; unfold sgn; rw [if_neg (by omega), if_neg (by omega)]
  subst eq
  have ed : decide (z < 0 ∨ (z = 0 ∧ β i < β k)) = false := decide_eq_false (by omega)
  have e2 := HTB.out
  rw [ed] at e2
  clear ed h HQ HTB
  generalize β i = x at *
  generalize β k = y at *
  subst e2
  go_upto_region 3 with fail
  go_quiet (fail)
  go_wp2
  go_ret
  exact ⟨rfl, below_drewN' HB3.out _⟩

/-- The row that is kept when the rows before k have been looked at; -1: none. -/
def bestI (E : Nat → Nat → Int) (β : Nat → Int) (R s : Nat) : Nat → Int
 | 0 => -1
 | k + 1 => if 0 < E k s ∧ (bestI E β R s k < 0 ∨ befB E β R k (bestI E β R s k).toNat s = true) then k else bestI E β R s k
theorem bestI_rg (E : Nat → Nat → Int) (β : Nat → Int) (R s : Nat) : ∀ k, bestI E β R s k = -1 ∨ (0 ≤ bestI E β R s k ∧ bestI E β R s k < k)
 | 0 => .inl rfl
 | k + 1 => by
  unfold bestI
  have := bestI_rg E β R s k
  split
  ·exact .inr ⟨by omega, by omega⟩
  ·rcases this with h | h
   ·exact .inl h
   ·exact .inr ⟨h.1, by omega⟩

set_option maxRecDepth 100000 in
set_option maxHeartbeats 16000000 in
theorem leaving_any (s : Nat) (w : World) (hS : TSt B0 w tb rb Cb bb sb m n wd pa pb pc pd G C E β sg D) (hs : s < wd) (hwd : wd = n + m + m + 1) (hm : m ≤ 1000) (hn : n ≤ 1000)
  (hE : ∀ i j, i < m + 2 → j < wd → -4611686018427387904 ≤ E i j ∧ E i j ≤ 4611686018427387904) :
  Calls Tryz.prog 92 #[.pointer (some ⟨tb, 0, none⟩), .int .i64 (s : Nat)] w fun e w' => e = .returned (.int .i64 (bestI E β (n + m + m) s m)) ∧ Below w.heap.size w w' := by
 have CB := fun i k W hi hk h => Lib.hid (before_any (B0 := B0) (tb := tb) (rb := rb) (Cb := Cb) (bb := bb) (sb := sb) (m := m) (n := n) (wd := wd) (pa := pa) (pb := pb) (pc := pc) (pd := pd) (G := G) (C := C) (E := E) (β := β) (sg := sg) (D := D) i k s W h hi hk hs hwd hm hn hE)
 have HS := Lib.hid hS
 have q1 := hS.t.c1
 have HB := bestI_rg E β (n + m + m) s
 have H0 : bestI E β (n + m + m) s 0 = -1 := rfl
 have HN : ∀ k, bestI E β (n + m + m) s (k + 1) = if 0 < E k s ∧ (bestI E β (n + m + m) s k < 0 ∨ befB E β (n + m + m) k (bestI E β (n + m + m) s k).toNat s = true) then (k : Int) else bestI E β (n + m + m) s k := fun k => rfl
 generalize bestI E β (n + m + m) s = F at *
 have HFB := Lib.hid HB
 have HF0 := Lib.hid H0
 have HFN := Lib.hid HN
 clear hS hE HB H0 HN
 go_enter Tryz.func92, Tryz.ntmps92
 go_wp2_with fail
 clear q1
 have S0 : Hid (TSt B0 w tb rb Cb bb sb m n wd pa pb pc pd G C E β sg D ∧ Below w.heap.size w w) := ⟨HS.out, Below.refl _ _⟩
 clear HS
 go_loopg [5, 12] m (fun g s5 s12 wx => ∃ i : Nat, s5 = .int .i64 (F i) ∧ s12 = .int .i64 i ∧ g = m - i ∧ i ≤ m ∧ Hid (TSt B0 wx tb rb Cb bb sb m n wd pa pb pc pd G C E β sg D ∧ Below w.heap.size w wx))
 case atStart => exact ⟨0, by rw [HF0.out], rfl, rfl, Nat.zero_le _, S0⟩
 case round =>
  clear S0
  obtain ⟨i, rfl, rfl, rfl, hi, S⟩ := hrel
  rename World => W2
  by_cases hlt : i < m
  ·have wk : IntKind.i64.wrap ((i : Int) + 1) = ((i + 1 : Nat) : Int) := by rw [IntWalk.i64_in _ (by omega)]; omega
   have q0 := S.out.1.t.c0
   have p1 := S.out.1.g.top i (by omega)
   have p2 := S.out.1.g.cell i s (by omega) hs
   have l1 : (i : Int) < ((m + 2 : Nat) : Int) := by omega
   have l2 : (i : Int) < (m : Int) + 2 := by omega
   have fn := HFN.out i
   have fb := HFB.out i
   obtain ⟨x, hx⟩ : ∃ x, E i s = x := ⟨_, rfl⟩
   rw [hx] at p2 fn
   obtain ⟨y, hy⟩ : ∃ y, F i = y := ⟨_, rfl⟩
   rw [hy] at fn fb
   rw [hy]
   have HX := Lib.hid hx
   have HY := Lib.hid hy
   clear hx hy
   by_cases h1 : 0 < x
   ·by_cases h2 : y < 0
    ·have e2 : F (i + 1) = (i : Int) := by rw [fn, if_pos ⟨h1, .inl h2⟩]
     have HE2 := Lib.hid e2
     clear fn fb e2
     have d1 : decide (0 < x) = true := decide_eq_true h1
     have d2 : decide (y < 0) = true := decide_eq_true h2
     go_wp2_with fail
     go_roundg (m - (i + 1))
     case measure => omega
     case rel => exact ⟨i + 1, by rw [HE2.out], rfl, rfl, by omega, S⟩
    ·have fb2 : 0 ≤ y ∧ y < (i : Int) := by omega
     obtain ⟨k, hk⟩ := Int.eq_ofNat_of_zero_le fb2.1
     subst hk
     have CBk := CB i k W2 hlt (by omega) S.out.1
     rw [show ((k : Nat) : Int).toNat = k from rfl] at fn
     obtain ⟨t, ht⟩ : ∃ t, befB E β (n + m + m) i k s = t := ⟨_, rfl⟩
     rw [ht] at fn CBk
     clear ht fb fb2
     have d1 : decide (0 < x) = true := decide_eq_true h1
     have d2 : decide ((k : Int) < 0) = false := decide_eq_false h2
     cases t
     ·have e2 : F (i + 1) = (k : Int) := by
       rw [fn, if_neg]
       rintro ⟨_, h | h⟩
       ·exact h2 h
       ·cases h
      have HE2 := Lib.hid e2
      clear fn e2
      go_wp2_with fail
      (with_reducible refine ((CBk.out).mono ?_))
      rintro e w3 ⟨rfl, hb⟩
      have T := Lib.hid (And.intro (S.out.1.on hb) (below_on S.out.2 hb))
      clear S hb CBk q0 p1 p2
      go_wp2_with fail
      go_roundg (m - (i + 1))
      case measure => omega
      case rel => exact ⟨i + 1, by rw [HE2.out], rfl, rfl, by omega, T⟩
     ·have e2 : F (i + 1) = (i : Int) := by rw [fn, if_pos ⟨h1, .inr rfl⟩]
      have HE2 := Lib.hid e2
      clear fn e2
      go_wp2_with fail
      (with_reducible refine ((CBk.out).mono ?_))
      rintro e w3 ⟨rfl, hb⟩
      have T := Lib.hid (And.intro (S.out.1.on hb) (below_on S.out.2 hb))
      clear S hb CBk q0 p1 p2
      go_wp2_with fail
      go_roundg (m - (i + 1))
      case measure => omega
      case rel => exact ⟨i + 1, by rw [HE2.out], rfl, rfl, by omega, T⟩
   ·have e2 : F (i + 1) = y := by rw [fn, if_neg fun h => h1 h.1]
    have HE2 := Lib.hid e2
    clear fn fb e2
    have d1 : decide (0 < x) = false := decide_eq_false h1
    go_wp2_with fail
    go_roundg (m - (i + 1))
    case measure => omega
    case rel => exact ⟨i + 1, by rw [HE2.out], rfl, rfl, by omega, S⟩
  ·have e : i = m := by omega
   subst e
   go_wp2_with fail
   go_ret
   exact ⟨rfl, S.out.2⟩
end
end Go.Proofs.YtggpdhdbeokkcaaGreat
