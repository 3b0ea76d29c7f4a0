/- Layer 4: two rows are exchanged, one with the other sign. -/
import Derived.Test.YtjggnmbdgagkoaaLBase
import Derived.Test.YtjggnmbdgagkoaaREach
namespace Go.Proofs.Ytjggnmbdgagkoaa
set_option linter.unusedVariables false
open Go.RowKit Go.Shelf

structure XchR (eb b R n Cb k a : Nat) (G C : Nat → Nat) (Wc : World) (L : Nat → Bool) (v : Nat → Value) (W : World) : Prop where
  st : L 25 = false → Below Wc.heap.size Wc W
  s1 : Had L 25 (L 27 = false → ∃ W2, Below Wc.heap.size Wc W2 ∧ W = W2.setCell ⟨b, k, none⟩ (.slice (some ⟨G a, 0, none⟩) n (C a)))
  s2 : Had L 27 (∃ W2, Below Wc.heap.size Wc W2 ∧ W = (W2.setCell ⟨b, k, none⟩ (.slice (some ⟨G a, 0, none⟩) n (C a))).setCell ⟨b, a, none⟩ (.slice (some ⟨G k, 0, none⟩) n (C k)))
  w1 : Had L 1 (∀ j ∈ [0], L j = true)
  w2 : Had L 2 (∀ j ∈ [1], L j = true)
  w3 : Had L 3 (∀ j ∈ [2], L j = true)
  w6 : Had L 6 (∀ j ∈ [5], L j = true)
  w7 : Had L 7 (∀ j ∈ [6], L j = true)
  w8 : Had L 8 (∀ j ∈ [7], L j = true)
  w11 : Had L 11 (∀ j ∈ [10], L j = true)
  w12 : Had L 12 (∀ j ∈ [11], L j = true)
  w13 : Had L 13 (∀ j ∈ [12], L j = true)
  w15 : Had L 15 (∀ j ∈ [13, 14], L j = true)
  w16 : Had L 16 (∀ j ∈ [15], L j = true)
  w18 : Had L 18 (∀ j ∈ [17], L j = true)
  w19 : Had L 19 (∀ j ∈ [18], L j = true)
  w20 : Had L 20 (∀ j ∈ [19], L j = true)
  w22 : Had L 22 (∀ j ∈ [20, 21], L j = true)
  w23 : Had L 23 (∀ j ∈ [22], L j = true)
  w24 : Had L 24 (∀ j ∈ [3, 4], L j = true)
  w25 : Had L 25 (∀ j ∈ [0, 1, 2, 3, 4, 8, 10, 11, 12, 13, 14, 15, 16, 20, 23, 24], L j = true)
  w26 : Had L 26 (∀ j ∈ [0, 1, 2, 3, 4, 5, 6, 7, 8, 9, 10, 11, 12, 13, 14, 15, 16, 17, 18, 19, 20, 21, 22, 23, 24, 25], L j = true)
  w27 : Had L 27 (∀ j ∈ [0, 1, 2, 3, 4, 5, 6, 7, 8, 9, 10, 11, 12, 13, 14, 15, 16, 17, 18, 19, 20, 21, 22, 23, 24, 25, 26], L j = true)
  f0 : Had L 0 (v 8 = .pointer (some ⟨eb, 0, none⟩))
  f1 : Had L 1 (v 9 = .pointer (some ⟨eb, 0, none⟩))
  f2 : Had L 2 (v 10 = .pointer (some ⟨eb, 0, none⟩))
  f3 : Had L 3 (v 11 = .slice (some ⟨b, 0, none⟩) R Cb)
  f4 : Had L 4 (v 12 = .int .i64 (k : Int))
  f5 : Had L 5 (v 13 = .pointer (some ⟨eb, 0, none⟩))
  f6 : Had L 6 (v 14 = .pointer (some ⟨eb, 0, none⟩))
  f7 : Had L 7 (v 15 = .pointer (some ⟨eb, 0, none⟩))
  f8 : Had L 8 (v 16 = .slice (some ⟨b, 0, none⟩) R Cb)
  f9 : Had L 9 (v 17 = .int .i64 (a : Int))
  f10 : Had L 10 (v 18 = .pointer (some ⟨eb, 0, none⟩))
  f11 : Had L 11 (v 19 = .pointer (some ⟨eb, 0, none⟩))
  f12 : Had L 12 (v 20 = .pointer (some ⟨eb, 0, none⟩))
  f13 : Had L 13 (v 21 = .slice (some ⟨b, 0, none⟩) R Cb)
  f14 : Had L 14 (v 22 = .int .i64 (a : Int))
  f15 : Had L 15 (v 23 = .pointer (some ⟨b, a, none⟩))
  f16 : Had L 16 (v 24 = .slice (some ⟨G a, 0, none⟩) n (C a))
  f17 : Had L 17 (v 25 = .pointer (some ⟨eb, 0, none⟩))
  f18 : Had L 18 (v 26 = .pointer (some ⟨eb, 0, none⟩))
  f19 : Had L 19 (v 27 = .pointer (some ⟨eb, 0, none⟩))
  f20 : Had L 20 (v 28 = .slice (some ⟨b, 0, none⟩) R Cb)
  f21 : Had L 21 (v 29 = .int .i64 (k : Int))
  f22 : Had L 22 (v 30 = .pointer (some ⟨b, k, none⟩))
  f23 : Had L 23 (v 31 = .slice (some ⟨G k, 0, none⟩) n (C k))
  f24 : Had L 24 (v 32 = .pointer (some ⟨b, k, none⟩))
  f26 : Had L 26 (v 33 = .pointer (some ⟨b, a, none⟩))

/-- The rows behind an exchange, the first i numbers of the row a negated. -/
def negE (a i : Nat) (E : Nat → Nat → Int) : Nat → Nat → Int := fun r j => if r = a ∧ j < i then - E r j else E r j
theorem negE_zero (a : Nat) (E : Nat → Nat → Int) : negE a 0 E = E := by funext r j; unfold negE; rw [if_neg (by omega)]
theorem negE_succ (a i : Nat) (E : Nat → Nat → Int) : setE (negE a i E) a i (- E a i) = negE a (i + 1) E := by
  funext r j
  unfold setE negE
  by_cases h : r = a ∧ j = i
  · obtain ⟨rfl, rfl⟩ := h
    rw [if_pos ⟨rfl, rfl⟩, if_pos ⟨rfl, by omega⟩]
  · rw [if_neg h]
    by_cases g : r = a ∧ j < i
    · rw [if_pos g, if_pos ⟨g.1, by omega⟩]
    · rw [if_neg g, if_neg (fun q => h ⟨q.1, by have := q.2; by_cases e : j = i; exact e; exact absurd ⟨q.1, by omega⟩ g⟩)]
theorem negE_ex (k a n : Nat) (hk : k < a) (E : Nat → Nat → Int) (i j : Nat) (hj : j < n) : exU k a E i j = negE a n (swE k a E) i j := by
  unfold exU negE swE
  by_cases h : i = k
  · rw [if_pos h, if_neg (by omega), if_pos h]
  · rw [if_neg h]
    by_cases g : i = a
    · subst g
      simp [h, hj]
    · rw [if_neg g, if_neg (by omega), if_neg h, if_neg g]

set_option maxRecDepth 100000 in
set_option maxHeartbeats 16000000 in
theorem exchange_any (B0 eb b R n Cb k a : Nat) (G C : Nat → Nat) (E : Nat → Nat → Int) (v1 v2 : Value) (w : World) (hE : EBlk w eb (.slice (some ⟨b, 0, none⟩) R Cb) v1 v2) (hG : Grid B0 w b R n G C E)
    (hne : eb ≠ b) (hrow : ∀ i, i < R → G i ≠ eb) (hk : k < a) (ha : a < R) (hR13 : R ≤ 13) (hn13 : n ≤ 13) (hbd : ∀ j, j < n → -4611686018427387904 ≤ E k j ∧ E k j ≤ 4611686018427387904) :
    Calls Try.prog 84 #[.pointer (some ⟨eb, 0, none⟩), .int .i64 k, .int .i64 a] w fun e w' => e = .returned (.tuple #[]) ∧ EBlk w' eb (.slice (some ⟨b, 0, none⟩) R Cb) v1 v2 ∧ Grid B0 w' b R n (swN k a G) (swN k a C) (exU k a E) ∧ Only (fun c => c = b ∨ c = G k) w w' := by
  have HE := Lib.hid hE
  have HG := Lib.hid hG
  have HB := Lib.hid hbd
  have HRW := Lib.hid hrow
  have HN := Lib.hid hne
  clear hE hG hbd hrow hne
  have hkR : k < R := by omega
  go_enter Try.func84, Try.ntmps84
  go_upto_region 0 with fail
  refine wp_region_each (fun L A W => ∃ (v : Nat → Value), A = ⟨#[.pointer (some ⟨eb, 0, none⟩), .int .i64 (k : Int), .int .i64 (a : Int), undef, undef, undef, undef, undef, v 8, v 9, v 10, v 11, v 12, v 13, v 14, v 15, v 16, v 17, v 18, v 19, v 20, v 21, v 22, v 23, v 24, v 25, v 26, v 27, v 28, v 29, v 30, v 31, v 32, v 33, undef, undef, undef, undef, undef, undef, undef, undef, undef, undef, undef, undef, undef, undef, undef, undef, undef, undef, undef, undef, undef, undef, undef, undef, undef], []⟩ ∧ XchR eb b R n Cb k a G C w L v W) (by kernel_rfl) (by kernel_rfl) ⟨fun _ => undef, rfl, ⟨(fun _ => Below.drew (Below.refl _ _)), Had.none, Had.none, Had.none, Had.none, Had.none, Had.none, Had.none, Had.none, Had.none, Had.none, Had.none, Had.none, Had.none, Had.none, Had.none, Had.none, Had.none, Had.none, Had.none, Had.none, Had.none, Had.none, Had.none, Had.none, Had.none, Had.none, Had.none, Had.none, Had.none, Had.none, Had.none, Had.none, Had.none, Had.none, Had.none, Had.none, Had.none, Had.none, Had.none, Had.none, Had.none, Had.none, Had.none, Had.none, Had.none, Had.none, Had.none, Had.none⟩⟩ (rs := [0, 1, 2, 3, 4, 5, 6, 7, 8, 9, 10, 11, 12, 13, 14, 15, 16, 17, 18, 19, 20, 21, 22, 23, 24, 25, 26, 27]) (by kernel_rfl) ?_ ?_
  · refine EachOf.cons [] rfl (by kernel_rfl) ?_ ?_
    · rintro L A W ⟨v, rfl, hR⟩ hi hw K hK
      have hk : L 25 = false := hR.w25.not hi rfl
      go_simp
      refine hK.out _ _ ?_
      exact ⟨(fun jz => if jz = 8 then .pointer (some ⟨eb, 0, none⟩) else v jz), rfl, ⟨(fun h => hR.st (upd_false h)), hR.s1.keepM rfl (fun h hx => h (upd_false hx)), hR.s2.keep rfl, hR.w1.keepM rfl (fun h j hj => upd_on (h j hj)), hR.w2.keepM rfl (fun h j hj => upd_on (h j hj)), hR.w3.keepM rfl (fun h j hj => upd_on (h j hj)), hR.w6.keepM rfl (fun h j hj => upd_on (h j hj)), hR.w7.keepM rfl (fun h j hj => upd_on (h j hj)), hR.w8.keepM rfl (fun h j hj => upd_on (h j hj)), hR.w11.keepM rfl (fun h j hj => upd_on (h j hj)), hR.w12.keepM rfl (fun h j hj => upd_on (h j hj)), hR.w13.keepM rfl (fun h j hj => upd_on (h j hj)), hR.w15.keepM rfl (fun h j hj => upd_on (h j hj)), hR.w16.keepM rfl (fun h j hj => upd_on (h j hj)), hR.w18.keepM rfl (fun h j hj => upd_on (h j hj)), hR.w19.keepM rfl (fun h j hj => upd_on (h j hj)), hR.w20.keepM rfl (fun h j hj => upd_on (h j hj)), hR.w22.keepM rfl (fun h j hj => upd_on (h j hj)), hR.w23.keepM rfl (fun h j hj => upd_on (h j hj)), hR.w24.keepM rfl (fun h j hj => upd_on (h j hj)), hR.w25.keepM rfl (fun h j hj => upd_on (h j hj)), hR.w26.keepM rfl (fun h j hj => upd_on (h j hj)), hR.w27.keepM rfl (fun h j hj => upd_on (h j hj)), (fun _ => rfl), hR.f1.keep rfl, hR.f2.keep rfl, hR.f3.keep rfl, hR.f4.keep rfl, hR.f5.keep rfl, hR.f6.keep rfl, hR.f7.keep rfl, hR.f8.keep rfl, hR.f9.keep rfl, hR.f10.keep rfl, hR.f11.keep rfl, hR.f12.keep rfl, hR.f13.keep rfl, hR.f14.keep rfl, hR.f15.keep rfl, hR.f16.keep rfl, hR.f17.keep rfl, hR.f18.keep rfl, hR.f19.keep rfl, hR.f20.keep rfl, hR.f21.keep rfl, hR.f22.keep rfl, hR.f23.keep rfl, hR.f24.keep rfl, hR.f26.keep rfl⟩⟩
    refine EachOf.cons [0] rfl (by kernel_rfl) ?_ ?_
    · rintro L A W ⟨v, rfl, hR⟩ hi hw K hK
      have hk : L 25 = false := hR.w25.not hi rfl
      have e0 := hR.f0 (hw 0 (by simp))
      simp only [e0]
      clear e0
      go_simp
      refine hK.out _ _ ?_
      exact ⟨(fun jz => if jz = 8 then .pointer (some ⟨eb, 0, none⟩) else if jz = 9 then .pointer (some ⟨eb, 0, none⟩) else v jz), rfl, ⟨(fun h => hR.st (upd_false h)), hR.s1.keepM rfl (fun h hx => h (upd_false hx)), hR.s2.keep rfl, (fun _ j hj => upd_on (hw j hj)), hR.w2.keepM rfl (fun h j hj => upd_on (h j hj)), hR.w3.keepM rfl (fun h j hj => upd_on (h j hj)), hR.w6.keepM rfl (fun h j hj => upd_on (h j hj)), hR.w7.keepM rfl (fun h j hj => upd_on (h j hj)), hR.w8.keepM rfl (fun h j hj => upd_on (h j hj)), hR.w11.keepM rfl (fun h j hj => upd_on (h j hj)), hR.w12.keepM rfl (fun h j hj => upd_on (h j hj)), hR.w13.keepM rfl (fun h j hj => upd_on (h j hj)), hR.w15.keepM rfl (fun h j hj => upd_on (h j hj)), hR.w16.keepM rfl (fun h j hj => upd_on (h j hj)), hR.w18.keepM rfl (fun h j hj => upd_on (h j hj)), hR.w19.keepM rfl (fun h j hj => upd_on (h j hj)), hR.w20.keepM rfl (fun h j hj => upd_on (h j hj)), hR.w22.keepM rfl (fun h j hj => upd_on (h j hj)), hR.w23.keepM rfl (fun h j hj => upd_on (h j hj)), hR.w24.keepM rfl (fun h j hj => upd_on (h j hj)), hR.w25.keepM rfl (fun h j hj => upd_on (h j hj)), hR.w26.keepM rfl (fun h j hj => upd_on (h j hj)), hR.w27.keepM rfl (fun h j hj => upd_on (h j hj)), (fun _ => rfl), (fun _ => rfl), hR.f2.keep rfl, hR.f3.keep rfl, hR.f4.keep rfl, hR.f5.keep rfl, hR.f6.keep rfl, hR.f7.keep rfl, hR.f8.keep rfl, hR.f9.keep rfl, hR.f10.keep rfl, hR.f11.keep rfl, hR.f12.keep rfl, hR.f13.keep rfl, hR.f14.keep rfl, hR.f15.keep rfl, hR.f16.keep rfl, hR.f17.keep rfl, hR.f18.keep rfl, hR.f19.keep rfl, hR.f20.keep rfl, hR.f21.keep rfl, hR.f22.keep rfl, hR.f23.keep rfl, hR.f24.keep rfl, hR.f26.keep rfl⟩⟩
    refine EachOf.cons [1] rfl (by kernel_rfl) ?_ ?_
    · rintro L A W ⟨v, rfl, hR⟩ hi hw K hK
      have hk : L 25 = false := hR.w25.not hi rfl
      have e1 := hR.f1 (hw 1 (by simp))
      simp only [e1]
      clear e1
      go_simp
      refine hK.out _ _ ?_
      exact ⟨(fun jz => if jz = 9 then .pointer (some ⟨eb, 0, none⟩) else if jz = 10 then .pointer (some ⟨eb, 0, none⟩) else v jz), rfl, ⟨(fun h => hR.st (upd_false h)), hR.s1.keepM rfl (fun h hx => h (upd_false hx)), hR.s2.keep rfl, hR.w1.keepM rfl (fun h j hj => upd_on (h j hj)), (fun _ j hj => upd_on (hw j hj)), hR.w3.keepM rfl (fun h j hj => upd_on (h j hj)), hR.w6.keepM rfl (fun h j hj => upd_on (h j hj)), hR.w7.keepM rfl (fun h j hj => upd_on (h j hj)), hR.w8.keepM rfl (fun h j hj => upd_on (h j hj)), hR.w11.keepM rfl (fun h j hj => upd_on (h j hj)), hR.w12.keepM rfl (fun h j hj => upd_on (h j hj)), hR.w13.keepM rfl (fun h j hj => upd_on (h j hj)), hR.w15.keepM rfl (fun h j hj => upd_on (h j hj)), hR.w16.keepM rfl (fun h j hj => upd_on (h j hj)), hR.w18.keepM rfl (fun h j hj => upd_on (h j hj)), hR.w19.keepM rfl (fun h j hj => upd_on (h j hj)), hR.w20.keepM rfl (fun h j hj => upd_on (h j hj)), hR.w22.keepM rfl (fun h j hj => upd_on (h j hj)), hR.w23.keepM rfl (fun h j hj => upd_on (h j hj)), hR.w24.keepM rfl (fun h j hj => upd_on (h j hj)), hR.w25.keepM rfl (fun h j hj => upd_on (h j hj)), hR.w26.keepM rfl (fun h j hj => upd_on (h j hj)), hR.w27.keepM rfl (fun h j hj => upd_on (h j hj)), hR.f0.keep rfl, (fun _ => rfl), (fun _ => rfl), hR.f3.keep rfl, hR.f4.keep rfl, hR.f5.keep rfl, hR.f6.keep rfl, hR.f7.keep rfl, hR.f8.keep rfl, hR.f9.keep rfl, hR.f10.keep rfl, hR.f11.keep rfl, hR.f12.keep rfl, hR.f13.keep rfl, hR.f14.keep rfl, hR.f15.keep rfl, hR.f16.keep rfl, hR.f17.keep rfl, hR.f18.keep rfl, hR.f19.keep rfl, hR.f20.keep rfl, hR.f21.keep rfl, hR.f22.keep rfl, hR.f23.keep rfl, hR.f24.keep rfl, hR.f26.keep rfl⟩⟩
    refine EachOf.cons [2] rfl (by kernel_rfl) ?_ ?_
    · rintro L A W ⟨v, rfl, hR⟩ hi hw K hK
      have hk : L 25 = false := hR.w25.not hi rfl
      have e2 := hR.f2 (hw 2 (by simp))
      simp only [e2]
      clear e2
      have q0 := HE.out.c0
      have q1 := (hR.st hk).cell (p := ⟨eb, 0, none⟩) HE.out.hb
      rw [q0] at q1
      go_simp
      refine hK.out _ _ ?_
      exact ⟨(fun jz => if jz = 10 then .pointer (some ⟨eb, 0, none⟩) else if jz = 11 then .slice (some ⟨b, 0, none⟩) R Cb else v jz), rfl, ⟨(fun h => hR.st (upd_false h)), hR.s1.keepM rfl (fun h hx => h (upd_false hx)), hR.s2.keep rfl, hR.w1.keepM rfl (fun h j hj => upd_on (h j hj)), hR.w2.keepM rfl (fun h j hj => upd_on (h j hj)), (fun _ j hj => upd_on (hw j hj)), hR.w6.keepM rfl (fun h j hj => upd_on (h j hj)), hR.w7.keepM rfl (fun h j hj => upd_on (h j hj)), hR.w8.keepM rfl (fun h j hj => upd_on (h j hj)), hR.w11.keepM rfl (fun h j hj => upd_on (h j hj)), hR.w12.keepM rfl (fun h j hj => upd_on (h j hj)), hR.w13.keepM rfl (fun h j hj => upd_on (h j hj)), hR.w15.keepM rfl (fun h j hj => upd_on (h j hj)), hR.w16.keepM rfl (fun h j hj => upd_on (h j hj)), hR.w18.keepM rfl (fun h j hj => upd_on (h j hj)), hR.w19.keepM rfl (fun h j hj => upd_on (h j hj)), hR.w20.keepM rfl (fun h j hj => upd_on (h j hj)), hR.w22.keepM rfl (fun h j hj => upd_on (h j hj)), hR.w23.keepM rfl (fun h j hj => upd_on (h j hj)), hR.w24.keepM rfl (fun h j hj => upd_on (h j hj)), hR.w25.keepM rfl (fun h j hj => upd_on (h j hj)), hR.w26.keepM rfl (fun h j hj => upd_on (h j hj)), hR.w27.keepM rfl (fun h j hj => upd_on (h j hj)), hR.f0.keep rfl, hR.f1.keep rfl, (fun _ => rfl), (fun _ => rfl), hR.f4.keep rfl, hR.f5.keep rfl, hR.f6.keep rfl, hR.f7.keep rfl, hR.f8.keep rfl, hR.f9.keep rfl, hR.f10.keep rfl, hR.f11.keep rfl, hR.f12.keep rfl, hR.f13.keep rfl, hR.f14.keep rfl, hR.f15.keep rfl, hR.f16.keep rfl, hR.f17.keep rfl, hR.f18.keep rfl, hR.f19.keep rfl, hR.f20.keep rfl, hR.f21.keep rfl, hR.f22.keep rfl, hR.f23.keep rfl, hR.f24.keep rfl, hR.f26.keep rfl⟩⟩
    refine EachOf.cons [] rfl (by kernel_rfl) ?_ ?_
    · rintro L A W ⟨v, rfl, hR⟩ hi hw K hK
      have hk : L 25 = false := hR.w25.not hi rfl
      go_simp
      refine hK.out _ _ ?_
      exact ⟨(fun jz => if jz = 12 then .int .i64 (k : Int) else v jz), rfl, ⟨(fun h => hR.st (upd_false h)), hR.s1.keepM rfl (fun h hx => h (upd_false hx)), hR.s2.keep rfl, hR.w1.keepM rfl (fun h j hj => upd_on (h j hj)), hR.w2.keepM rfl (fun h j hj => upd_on (h j hj)), hR.w3.keepM rfl (fun h j hj => upd_on (h j hj)), hR.w6.keepM rfl (fun h j hj => upd_on (h j hj)), hR.w7.keepM rfl (fun h j hj => upd_on (h j hj)), hR.w8.keepM rfl (fun h j hj => upd_on (h j hj)), hR.w11.keepM rfl (fun h j hj => upd_on (h j hj)), hR.w12.keepM rfl (fun h j hj => upd_on (h j hj)), hR.w13.keepM rfl (fun h j hj => upd_on (h j hj)), hR.w15.keepM rfl (fun h j hj => upd_on (h j hj)), hR.w16.keepM rfl (fun h j hj => upd_on (h j hj)), hR.w18.keepM rfl (fun h j hj => upd_on (h j hj)), hR.w19.keepM rfl (fun h j hj => upd_on (h j hj)), hR.w20.keepM rfl (fun h j hj => upd_on (h j hj)), hR.w22.keepM rfl (fun h j hj => upd_on (h j hj)), hR.w23.keepM rfl (fun h j hj => upd_on (h j hj)), hR.w24.keepM rfl (fun h j hj => upd_on (h j hj)), hR.w25.keepM rfl (fun h j hj => upd_on (h j hj)), hR.w26.keepM rfl (fun h j hj => upd_on (h j hj)), hR.w27.keepM rfl (fun h j hj => upd_on (h j hj)), hR.f0.keep rfl, hR.f1.keep rfl, hR.f2.keep rfl, hR.f3.keep rfl, (fun _ => rfl), hR.f5.keep rfl, hR.f6.keep rfl, hR.f7.keep rfl, hR.f8.keep rfl, hR.f9.keep rfl, hR.f10.keep rfl, hR.f11.keep rfl, hR.f12.keep rfl, hR.f13.keep rfl, hR.f14.keep rfl, hR.f15.keep rfl, hR.f16.keep rfl, hR.f17.keep rfl, hR.f18.keep rfl, hR.f19.keep rfl, hR.f20.keep rfl, hR.f21.keep rfl, hR.f22.keep rfl, hR.f23.keep rfl, hR.f24.keep rfl, hR.f26.keep rfl⟩⟩
    refine EachOf.cons [] rfl (by kernel_rfl) ?_ ?_
    · rintro L A W ⟨v, rfl, hR⟩ hi hw K hK
      have hk : L 25 = false := hR.w25.not (hR.w8.not (hR.w7.not (hR.w6.not hi rfl) rfl) rfl) rfl
      go_simp
      refine hK.out _ _ ?_
      exact ⟨(fun jz => if jz = 13 then .pointer (some ⟨eb, 0, none⟩) else v jz), rfl, ⟨(fun h => hR.st (upd_false h)), hR.s1.keepM rfl (fun h hx => h (upd_false hx)), hR.s2.keep rfl, hR.w1.keepM rfl (fun h j hj => upd_on (h j hj)), hR.w2.keepM rfl (fun h j hj => upd_on (h j hj)), hR.w3.keepM rfl (fun h j hj => upd_on (h j hj)), hR.w6.keepM rfl (fun h j hj => upd_on (h j hj)), hR.w7.keepM rfl (fun h j hj => upd_on (h j hj)), hR.w8.keepM rfl (fun h j hj => upd_on (h j hj)), hR.w11.keepM rfl (fun h j hj => upd_on (h j hj)), hR.w12.keepM rfl (fun h j hj => upd_on (h j hj)), hR.w13.keepM rfl (fun h j hj => upd_on (h j hj)), hR.w15.keepM rfl (fun h j hj => upd_on (h j hj)), hR.w16.keepM rfl (fun h j hj => upd_on (h j hj)), hR.w18.keepM rfl (fun h j hj => upd_on (h j hj)), hR.w19.keepM rfl (fun h j hj => upd_on (h j hj)), hR.w20.keepM rfl (fun h j hj => upd_on (h j hj)), hR.w22.keepM rfl (fun h j hj => upd_on (h j hj)), hR.w23.keepM rfl (fun h j hj => upd_on (h j hj)), hR.w24.keepM rfl (fun h j hj => upd_on (h j hj)), hR.w25.keepM rfl (fun h j hj => upd_on (h j hj)), hR.w26.keepM rfl (fun h j hj => upd_on (h j hj)), hR.w27.keepM rfl (fun h j hj => upd_on (h j hj)), hR.f0.keep rfl, hR.f1.keep rfl, hR.f2.keep rfl, hR.f3.keep rfl, hR.f4.keep rfl, (fun _ => rfl), hR.f6.keep rfl, hR.f7.keep rfl, hR.f8.keep rfl, hR.f9.keep rfl, hR.f10.keep rfl, hR.f11.keep rfl, hR.f12.keep rfl, hR.f13.keep rfl, hR.f14.keep rfl, hR.f15.keep rfl, hR.f16.keep rfl, hR.f17.keep rfl, hR.f18.keep rfl, hR.f19.keep rfl, hR.f20.keep rfl, hR.f21.keep rfl, hR.f22.keep rfl, hR.f23.keep rfl, hR.f24.keep rfl, hR.f26.keep rfl⟩⟩
    refine EachOf.cons [5] rfl (by kernel_rfl) ?_ ?_
    · rintro L A W ⟨v, rfl, hR⟩ hi hw K hK
      have hk : L 25 = false := hR.w25.not (hR.w8.not (hR.w7.not hi rfl) rfl) rfl
      have e5 := hR.f5 (hw 5 (by simp))
      simp only [e5]
      clear e5
      go_simp
      refine hK.out _ _ ?_
      exact ⟨(fun jz => if jz = 13 then .pointer (some ⟨eb, 0, none⟩) else if jz = 14 then .pointer (some ⟨eb, 0, none⟩) else v jz), rfl, ⟨(fun h => hR.st (upd_false h)), hR.s1.keepM rfl (fun h hx => h (upd_false hx)), hR.s2.keep rfl, hR.w1.keepM rfl (fun h j hj => upd_on (h j hj)), hR.w2.keepM rfl (fun h j hj => upd_on (h j hj)), hR.w3.keepM rfl (fun h j hj => upd_on (h j hj)), (fun _ j hj => upd_on (hw j hj)), hR.w7.keepM rfl (fun h j hj => upd_on (h j hj)), hR.w8.keepM rfl (fun h j hj => upd_on (h j hj)), hR.w11.keepM rfl (fun h j hj => upd_on (h j hj)), hR.w12.keepM rfl (fun h j hj => upd_on (h j hj)), hR.w13.keepM rfl (fun h j hj => upd_on (h j hj)), hR.w15.keepM rfl (fun h j hj => upd_on (h j hj)), hR.w16.keepM rfl (fun h j hj => upd_on (h j hj)), hR.w18.keepM rfl (fun h j hj => upd_on (h j hj)), hR.w19.keepM rfl (fun h j hj => upd_on (h j hj)), hR.w20.keepM rfl (fun h j hj => upd_on (h j hj)), hR.w22.keepM rfl (fun h j hj => upd_on (h j hj)), hR.w23.keepM rfl (fun h j hj => upd_on (h j hj)), hR.w24.keepM rfl (fun h j hj => upd_on (h j hj)), hR.w25.keepM rfl (fun h j hj => upd_on (h j hj)), hR.w26.keepM rfl (fun h j hj => upd_on (h j hj)), hR.w27.keepM rfl (fun h j hj => upd_on (h j hj)), hR.f0.keep rfl, hR.f1.keep rfl, hR.f2.keep rfl, hR.f3.keep rfl, hR.f4.keep rfl, (fun _ => rfl), (fun _ => rfl), hR.f7.keep rfl, hR.f8.keep rfl, hR.f9.keep rfl, hR.f10.keep rfl, hR.f11.keep rfl, hR.f12.keep rfl, hR.f13.keep rfl, hR.f14.keep rfl, hR.f15.keep rfl, hR.f16.keep rfl, hR.f17.keep rfl, hR.f18.keep rfl, hR.f19.keep rfl, hR.f20.keep rfl, hR.f21.keep rfl, hR.f22.keep rfl, hR.f23.keep rfl, hR.f24.keep rfl, hR.f26.keep rfl⟩⟩
    refine EachOf.cons [6] rfl (by kernel_rfl) ?_ ?_
    · rintro L A W ⟨v, rfl, hR⟩ hi hw K hK
      have hk : L 25 = false := hR.w25.not (hR.w8.not hi rfl) rfl
      have e6 := hR.f6 (hw 6 (by simp))
      simp only [e6]
      clear e6
      go_simp
      refine hK.out _ _ ?_
      exact ⟨(fun jz => if jz = 14 then .pointer (some ⟨eb, 0, none⟩) else if jz = 15 then .pointer (some ⟨eb, 0, none⟩) else v jz), rfl, ⟨(fun h => hR.st (upd_false h)), hR.s1.keepM rfl (fun h hx => h (upd_false hx)), hR.s2.keep rfl, hR.w1.keepM rfl (fun h j hj => upd_on (h j hj)), hR.w2.keepM rfl (fun h j hj => upd_on (h j hj)), hR.w3.keepM rfl (fun h j hj => upd_on (h j hj)), hR.w6.keepM rfl (fun h j hj => upd_on (h j hj)), (fun _ j hj => upd_on (hw j hj)), hR.w8.keepM rfl (fun h j hj => upd_on (h j hj)), hR.w11.keepM rfl (fun h j hj => upd_on (h j hj)), hR.w12.keepM rfl (fun h j hj => upd_on (h j hj)), hR.w13.keepM rfl (fun h j hj => upd_on (h j hj)), hR.w15.keepM rfl (fun h j hj => upd_on (h j hj)), hR.w16.keepM rfl (fun h j hj => upd_on (h j hj)), hR.w18.keepM rfl (fun h j hj => upd_on (h j hj)), hR.w19.keepM rfl (fun h j hj => upd_on (h j hj)), hR.w20.keepM rfl (fun h j hj => upd_on (h j hj)), hR.w22.keepM rfl (fun h j hj => upd_on (h j hj)), hR.w23.keepM rfl (fun h j hj => upd_on (h j hj)), hR.w24.keepM rfl (fun h j hj => upd_on (h j hj)), hR.w25.keepM rfl (fun h j hj => upd_on (h j hj)), hR.w26.keepM rfl (fun h j hj => upd_on (h j hj)), hR.w27.keepM rfl (fun h j hj => upd_on (h j hj)), hR.f0.keep rfl, hR.f1.keep rfl, hR.f2.keep rfl, hR.f3.keep rfl, hR.f4.keep rfl, hR.f5.keep rfl, (fun _ => rfl), (fun _ => rfl), hR.f8.keep rfl, hR.f9.keep rfl, hR.f10.keep rfl, hR.f11.keep rfl, hR.f12.keep rfl, hR.f13.keep rfl, hR.f14.keep rfl, hR.f15.keep rfl, hR.f16.keep rfl, hR.f17.keep rfl, hR.f18.keep rfl, hR.f19.keep rfl, hR.f20.keep rfl, hR.f21.keep rfl, hR.f22.keep rfl, hR.f23.keep rfl, hR.f24.keep rfl, hR.f26.keep rfl⟩⟩
    refine EachOf.cons [7] rfl (by kernel_rfl) ?_ ?_
    · rintro L A W ⟨v, rfl, hR⟩ hi hw K hK
      have hk : L 25 = false := hR.w25.not hi rfl
      have e7 := hR.f7 (hw 7 (by simp))
      simp only [e7]
      clear e7
      have q0 := HE.out.c0
      have q1 := (hR.st hk).cell (p := ⟨eb, 0, none⟩) HE.out.hb
      rw [q0] at q1
      go_simp
      refine hK.out _ _ ?_
      exact ⟨(fun jz => if jz = 15 then .pointer (some ⟨eb, 0, none⟩) else if jz = 16 then .slice (some ⟨b, 0, none⟩) R Cb else v jz), rfl, ⟨(fun h => hR.st (upd_false h)), hR.s1.keepM rfl (fun h hx => h (upd_false hx)), hR.s2.keep rfl, hR.w1.keepM rfl (fun h j hj => upd_on (h j hj)), hR.w2.keepM rfl (fun h j hj => upd_on (h j hj)), hR.w3.keepM rfl (fun h j hj => upd_on (h j hj)), hR.w6.keepM rfl (fun h j hj => upd_on (h j hj)), hR.w7.keepM rfl (fun h j hj => upd_on (h j hj)), (fun _ j hj => upd_on (hw j hj)), hR.w11.keepM rfl (fun h j hj => upd_on (h j hj)), hR.w12.keepM rfl (fun h j hj => upd_on (h j hj)), hR.w13.keepM rfl (fun h j hj => upd_on (h j hj)), hR.w15.keepM rfl (fun h j hj => upd_on (h j hj)), hR.w16.keepM rfl (fun h j hj => upd_on (h j hj)), hR.w18.keepM rfl (fun h j hj => upd_on (h j hj)), hR.w19.keepM rfl (fun h j hj => upd_on (h j hj)), hR.w20.keepM rfl (fun h j hj => upd_on (h j hj)), hR.w22.keepM rfl (fun h j hj => upd_on (h j hj)), hR.w23.keepM rfl (fun h j hj => upd_on (h j hj)), hR.w24.keepM rfl (fun h j hj => upd_on (h j hj)), hR.w25.keepM rfl (fun h j hj => upd_on (h j hj)), hR.w26.keepM rfl (fun h j hj => upd_on (h j hj)), hR.w27.keepM rfl (fun h j hj => upd_on (h j hj)), hR.f0.keep rfl, hR.f1.keep rfl, hR.f2.keep rfl, hR.f3.keep rfl, hR.f4.keep rfl, hR.f5.keep rfl, hR.f6.keep rfl, (fun _ => rfl), (fun _ => rfl), hR.f9.keep rfl, hR.f10.keep rfl, hR.f11.keep rfl, hR.f12.keep rfl, hR.f13.keep rfl, hR.f14.keep rfl, hR.f15.keep rfl, hR.f16.keep rfl, hR.f17.keep rfl, hR.f18.keep rfl, hR.f19.keep rfl, hR.f20.keep rfl, hR.f21.keep rfl, hR.f22.keep rfl, hR.f23.keep rfl, hR.f24.keep rfl, hR.f26.keep rfl⟩⟩
    refine EachOf.cons [] rfl (by kernel_rfl) ?_ ?_
    · rintro L A W ⟨v, rfl, hR⟩ hi hw K hK
      go_simp
      refine hK.out _ _ ?_
      exact ⟨(fun jz => if jz = 17 then .int .i64 (a : Int) else v jz), rfl, ⟨(fun h => hR.st (upd_false h)), hR.s1.keepM rfl (fun h hx => h (upd_false hx)), hR.s2.keep rfl, hR.w1.keepM rfl (fun h j hj => upd_on (h j hj)), hR.w2.keepM rfl (fun h j hj => upd_on (h j hj)), hR.w3.keepM rfl (fun h j hj => upd_on (h j hj)), hR.w6.keepM rfl (fun h j hj => upd_on (h j hj)), hR.w7.keepM rfl (fun h j hj => upd_on (h j hj)), hR.w8.keepM rfl (fun h j hj => upd_on (h j hj)), hR.w11.keepM rfl (fun h j hj => upd_on (h j hj)), hR.w12.keepM rfl (fun h j hj => upd_on (h j hj)), hR.w13.keepM rfl (fun h j hj => upd_on (h j hj)), hR.w15.keepM rfl (fun h j hj => upd_on (h j hj)), hR.w16.keepM rfl (fun h j hj => upd_on (h j hj)), hR.w18.keepM rfl (fun h j hj => upd_on (h j hj)), hR.w19.keepM rfl (fun h j hj => upd_on (h j hj)), hR.w20.keepM rfl (fun h j hj => upd_on (h j hj)), hR.w22.keepM rfl (fun h j hj => upd_on (h j hj)), hR.w23.keepM rfl (fun h j hj => upd_on (h j hj)), hR.w24.keepM rfl (fun h j hj => upd_on (h j hj)), hR.w25.keepM rfl (fun h j hj => upd_on (h j hj)), hR.w26.keepM rfl (fun h j hj => upd_on (h j hj)), hR.w27.keepM rfl (fun h j hj => upd_on (h j hj)), hR.f0.keep rfl, hR.f1.keep rfl, hR.f2.keep rfl, hR.f3.keep rfl, hR.f4.keep rfl, hR.f5.keep rfl, hR.f6.keep rfl, hR.f7.keep rfl, hR.f8.keep rfl, (fun _ => rfl), hR.f10.keep rfl, hR.f11.keep rfl, hR.f12.keep rfl, hR.f13.keep rfl, hR.f14.keep rfl, hR.f15.keep rfl, hR.f16.keep rfl, hR.f17.keep rfl, hR.f18.keep rfl, hR.f19.keep rfl, hR.f20.keep rfl, hR.f21.keep rfl, hR.f22.keep rfl, hR.f23.keep rfl, hR.f24.keep rfl, hR.f26.keep rfl⟩⟩
    refine EachOf.cons [] rfl (by kernel_rfl) ?_ ?_
    · rintro L A W ⟨v, rfl, hR⟩ hi hw K hK
      have hk : L 25 = false := hR.w25.not hi rfl
      go_simp
      refine hK.out _ _ ?_
      exact ⟨(fun jz => if jz = 18 then .pointer (some ⟨eb, 0, none⟩) else v jz), rfl, ⟨(fun h => hR.st (upd_false h)), hR.s1.keepM rfl (fun h hx => h (upd_false hx)), hR.s2.keep rfl, hR.w1.keepM rfl (fun h j hj => upd_on (h j hj)), hR.w2.keepM rfl (fun h j hj => upd_on (h j hj)), hR.w3.keepM rfl (fun h j hj => upd_on (h j hj)), hR.w6.keepM rfl (fun h j hj => upd_on (h j hj)), hR.w7.keepM rfl (fun h j hj => upd_on (h j hj)), hR.w8.keepM rfl (fun h j hj => upd_on (h j hj)), hR.w11.keepM rfl (fun h j hj => upd_on (h j hj)), hR.w12.keepM rfl (fun h j hj => upd_on (h j hj)), hR.w13.keepM rfl (fun h j hj => upd_on (h j hj)), hR.w15.keepM rfl (fun h j hj => upd_on (h j hj)), hR.w16.keepM rfl (fun h j hj => upd_on (h j hj)), hR.w18.keepM rfl (fun h j hj => upd_on (h j hj)), hR.w19.keepM rfl (fun h j hj => upd_on (h j hj)), hR.w20.keepM rfl (fun h j hj => upd_on (h j hj)), hR.w22.keepM rfl (fun h j hj => upd_on (h j hj)), hR.w23.keepM rfl (fun h j hj => upd_on (h j hj)), hR.w24.keepM rfl (fun h j hj => upd_on (h j hj)), hR.w25.keepM rfl (fun h j hj => upd_on (h j hj)), hR.w26.keepM rfl (fun h j hj => upd_on (h j hj)), hR.w27.keepM rfl (fun h j hj => upd_on (h j hj)), hR.f0.keep rfl, hR.f1.keep rfl, hR.f2.keep rfl, hR.f3.keep rfl, hR.f4.keep rfl, hR.f5.keep rfl, hR.f6.keep rfl, hR.f7.keep rfl, hR.f8.keep rfl, hR.f9.keep rfl, (fun _ => rfl), hR.f11.keep rfl, hR.f12.keep rfl, hR.f13.keep rfl, hR.f14.keep rfl, hR.f15.keep rfl, hR.f16.keep rfl, hR.f17.keep rfl, hR.f18.keep rfl, hR.f19.keep rfl, hR.f20.keep rfl, hR.f21.keep rfl, hR.f22.keep rfl, hR.f23.keep rfl, hR.f24.keep rfl, hR.f26.keep rfl⟩⟩
    refine EachOf.cons [10] rfl (by kernel_rfl) ?_ ?_
    · rintro L A W ⟨v, rfl, hR⟩ hi hw K hK
      have hk : L 25 = false := hR.w25.not hi rfl
      have e10 := hR.f10 (hw 10 (by simp))
      simp only [e10]
      clear e10
      go_simp
      refine hK.out _ _ ?_
      exact ⟨(fun jz => if jz = 18 then .pointer (some ⟨eb, 0, none⟩) else if jz = 19 then .pointer (some ⟨eb, 0, none⟩) else v jz), rfl, ⟨(fun h => hR.st (upd_false h)), hR.s1.keepM rfl (fun h hx => h (upd_false hx)), hR.s2.keep rfl, hR.w1.keepM rfl (fun h j hj => upd_on (h j hj)), hR.w2.keepM rfl (fun h j hj => upd_on (h j hj)), hR.w3.keepM rfl (fun h j hj => upd_on (h j hj)), hR.w6.keepM rfl (fun h j hj => upd_on (h j hj)), hR.w7.keepM rfl (fun h j hj => upd_on (h j hj)), hR.w8.keepM rfl (fun h j hj => upd_on (h j hj)), (fun _ j hj => upd_on (hw j hj)), hR.w12.keepM rfl (fun h j hj => upd_on (h j hj)), hR.w13.keepM rfl (fun h j hj => upd_on (h j hj)), hR.w15.keepM rfl (fun h j hj => upd_on (h j hj)), hR.w16.keepM rfl (fun h j hj => upd_on (h j hj)), hR.w18.keepM rfl (fun h j hj => upd_on (h j hj)), hR.w19.keepM rfl (fun h j hj => upd_on (h j hj)), hR.w20.keepM rfl (fun h j hj => upd_on (h j hj)), hR.w22.keepM rfl (fun h j hj => upd_on (h j hj)), hR.w23.keepM rfl (fun h j hj => upd_on (h j hj)), hR.w24.keepM rfl (fun h j hj => upd_on (h j hj)), hR.w25.keepM rfl (fun h j hj => upd_on (h j hj)), hR.w26.keepM rfl (fun h j hj => upd_on (h j hj)), hR.w27.keepM rfl (fun h j hj => upd_on (h j hj)), hR.f0.keep rfl, hR.f1.keep rfl, hR.f2.keep rfl, hR.f3.keep rfl, hR.f4.keep rfl, hR.f5.keep rfl, hR.f6.keep rfl, hR.f7.keep rfl, hR.f8.keep rfl, hR.f9.keep rfl, (fun _ => rfl), (fun _ => rfl), hR.f12.keep rfl, hR.f13.keep rfl, hR.f14.keep rfl, hR.f15.keep rfl, hR.f16.keep rfl, hR.f17.keep rfl, hR.f18.keep rfl, hR.f19.keep rfl, hR.f20.keep rfl, hR.f21.keep rfl, hR.f22.keep rfl, hR.f23.keep rfl, hR.f24.keep rfl, hR.f26.keep rfl⟩⟩
    refine EachOf.cons [11] rfl (by kernel_rfl) ?_ ?_
    · rintro L A W ⟨v, rfl, hR⟩ hi hw K hK
      have hk : L 25 = false := hR.w25.not hi rfl
      have e11 := hR.f11 (hw 11 (by simp))
      simp only [e11]
      clear e11
      go_simp
      refine hK.out _ _ ?_
      exact ⟨(fun jz => if jz = 19 then .pointer (some ⟨eb, 0, none⟩) else if jz = 20 then .pointer (some ⟨eb, 0, none⟩) else v jz), rfl, ⟨(fun h => hR.st (upd_false h)), hR.s1.keepM rfl (fun h hx => h (upd_false hx)), hR.s2.keep rfl, hR.w1.keepM rfl (fun h j hj => upd_on (h j hj)), hR.w2.keepM rfl (fun h j hj => upd_on (h j hj)), hR.w3.keepM rfl (fun h j hj => upd_on (h j hj)), hR.w6.keepM rfl (fun h j hj => upd_on (h j hj)), hR.w7.keepM rfl (fun h j hj => upd_on (h j hj)), hR.w8.keepM rfl (fun h j hj => upd_on (h j hj)), hR.w11.keepM rfl (fun h j hj => upd_on (h j hj)), (fun _ j hj => upd_on (hw j hj)), hR.w13.keepM rfl (fun h j hj => upd_on (h j hj)), hR.w15.keepM rfl (fun h j hj => upd_on (h j hj)), hR.w16.keepM rfl (fun h j hj => upd_on (h j hj)), hR.w18.keepM rfl (fun h j hj => upd_on (h j hj)), hR.w19.keepM rfl (fun h j hj => upd_on (h j hj)), hR.w20.keepM rfl (fun h j hj => upd_on (h j hj)), hR.w22.keepM rfl (fun h j hj => upd_on (h j hj)), hR.w23.keepM rfl (fun h j hj => upd_on (h j hj)), hR.w24.keepM rfl (fun h j hj => upd_on (h j hj)), hR.w25.keepM rfl (fun h j hj => upd_on (h j hj)), hR.w26.keepM rfl (fun h j hj => upd_on (h j hj)), hR.w27.keepM rfl (fun h j hj => upd_on (h j hj)), hR.f0.keep rfl, hR.f1.keep rfl, hR.f2.keep rfl, hR.f3.keep rfl, hR.f4.keep rfl, hR.f5.keep rfl, hR.f6.keep rfl, hR.f7.keep rfl, hR.f8.keep rfl, hR.f9.keep rfl, hR.f10.keep rfl, (fun _ => rfl), (fun _ => rfl), hR.f13.keep rfl, hR.f14.keep rfl, hR.f15.keep rfl, hR.f16.keep rfl, hR.f17.keep rfl, hR.f18.keep rfl, hR.f19.keep rfl, hR.f20.keep rfl, hR.f21.keep rfl, hR.f22.keep rfl, hR.f23.keep rfl, hR.f24.keep rfl, hR.f26.keep rfl⟩⟩
    refine EachOf.cons [12] rfl (by kernel_rfl) ?_ ?_
    · rintro L A W ⟨v, rfl, hR⟩ hi hw K hK
      have hk : L 25 = false := hR.w25.not hi rfl
      have e12 := hR.f12 (hw 12 (by simp))
      simp only [e12]
      clear e12
      have q0 := HE.out.c0
      have q1 := (hR.st hk).cell (p := ⟨eb, 0, none⟩) HE.out.hb
      rw [q0] at q1
      go_simp
      refine hK.out _ _ ?_
      exact ⟨(fun jz => if jz = 20 then .pointer (some ⟨eb, 0, none⟩) else if jz = 21 then .slice (some ⟨b, 0, none⟩) R Cb else v jz), rfl, ⟨(fun h => hR.st (upd_false h)), hR.s1.keepM rfl (fun h hx => h (upd_false hx)), hR.s2.keep rfl, hR.w1.keepM rfl (fun h j hj => upd_on (h j hj)), hR.w2.keepM rfl (fun h j hj => upd_on (h j hj)), hR.w3.keepM rfl (fun h j hj => upd_on (h j hj)), hR.w6.keepM rfl (fun h j hj => upd_on (h j hj)), hR.w7.keepM rfl (fun h j hj => upd_on (h j hj)), hR.w8.keepM rfl (fun h j hj => upd_on (h j hj)), hR.w11.keepM rfl (fun h j hj => upd_on (h j hj)), hR.w12.keepM rfl (fun h j hj => upd_on (h j hj)), (fun _ j hj => upd_on (hw j hj)), hR.w15.keepM rfl (fun h j hj => upd_on (h j hj)), hR.w16.keepM rfl (fun h j hj => upd_on (h j hj)), hR.w18.keepM rfl (fun h j hj => upd_on (h j hj)), hR.w19.keepM rfl (fun h j hj => upd_on (h j hj)), hR.w20.keepM rfl (fun h j hj => upd_on (h j hj)), hR.w22.keepM rfl (fun h j hj => upd_on (h j hj)), hR.w23.keepM rfl (fun h j hj => upd_on (h j hj)), hR.w24.keepM rfl (fun h j hj => upd_on (h j hj)), hR.w25.keepM rfl (fun h j hj => upd_on (h j hj)), hR.w26.keepM rfl (fun h j hj => upd_on (h j hj)), hR.w27.keepM rfl (fun h j hj => upd_on (h j hj)), hR.f0.keep rfl, hR.f1.keep rfl, hR.f2.keep rfl, hR.f3.keep rfl, hR.f4.keep rfl, hR.f5.keep rfl, hR.f6.keep rfl, hR.f7.keep rfl, hR.f8.keep rfl, hR.f9.keep rfl, hR.f10.keep rfl, hR.f11.keep rfl, (fun _ => rfl), (fun _ => rfl), hR.f14.keep rfl, hR.f15.keep rfl, hR.f16.keep rfl, hR.f17.keep rfl, hR.f18.keep rfl, hR.f19.keep rfl, hR.f20.keep rfl, hR.f21.keep rfl, hR.f22.keep rfl, hR.f23.keep rfl, hR.f24.keep rfl, hR.f26.keep rfl⟩⟩
    refine EachOf.cons [] rfl (by kernel_rfl) ?_ ?_
    · rintro L A W ⟨v, rfl, hR⟩ hi hw K hK
      have hk : L 25 = false := hR.w25.not hi rfl
      go_simp
      refine hK.out _ _ ?_
      exact ⟨(fun jz => if jz = 22 then .int .i64 (a : Int) else v jz), rfl, ⟨(fun h => hR.st (upd_false h)), hR.s1.keepM rfl (fun h hx => h (upd_false hx)), hR.s2.keep rfl, hR.w1.keepM rfl (fun h j hj => upd_on (h j hj)), hR.w2.keepM rfl (fun h j hj => upd_on (h j hj)), hR.w3.keepM rfl (fun h j hj => upd_on (h j hj)), hR.w6.keepM rfl (fun h j hj => upd_on (h j hj)), hR.w7.keepM rfl (fun h j hj => upd_on (h j hj)), hR.w8.keepM rfl (fun h j hj => upd_on (h j hj)), hR.w11.keepM rfl (fun h j hj => upd_on (h j hj)), hR.w12.keepM rfl (fun h j hj => upd_on (h j hj)), hR.w13.keepM rfl (fun h j hj => upd_on (h j hj)), hR.w15.keepM rfl (fun h j hj => upd_on (h j hj)), hR.w16.keepM rfl (fun h j hj => upd_on (h j hj)), hR.w18.keepM rfl (fun h j hj => upd_on (h j hj)), hR.w19.keepM rfl (fun h j hj => upd_on (h j hj)), hR.w20.keepM rfl (fun h j hj => upd_on (h j hj)), hR.w22.keepM rfl (fun h j hj => upd_on (h j hj)), hR.w23.keepM rfl (fun h j hj => upd_on (h j hj)), hR.w24.keepM rfl (fun h j hj => upd_on (h j hj)), hR.w25.keepM rfl (fun h j hj => upd_on (h j hj)), hR.w26.keepM rfl (fun h j hj => upd_on (h j hj)), hR.w27.keepM rfl (fun h j hj => upd_on (h j hj)), hR.f0.keep rfl, hR.f1.keep rfl, hR.f2.keep rfl, hR.f3.keep rfl, hR.f4.keep rfl, hR.f5.keep rfl, hR.f6.keep rfl, hR.f7.keep rfl, hR.f8.keep rfl, hR.f9.keep rfl, hR.f10.keep rfl, hR.f11.keep rfl, hR.f12.keep rfl, hR.f13.keep rfl, (fun _ => rfl), hR.f15.keep rfl, hR.f16.keep rfl, hR.f17.keep rfl, hR.f18.keep rfl, hR.f19.keep rfl, hR.f20.keep rfl, hR.f21.keep rfl, hR.f22.keep rfl, hR.f23.keep rfl, hR.f24.keep rfl, hR.f26.keep rfl⟩⟩
    refine EachOf.cons [13, 14] rfl (by kernel_rfl) ?_ ?_
    · rintro L A W ⟨v, rfl, hR⟩ hi hw K hK
      have hk : L 25 = false := hR.w25.not hi rfl
      have e13 := hR.f13 (hw 13 (by simp))
      have e14 := hR.f14 (hw 14 (by simp))
      simp only [e13, e14]
      clear e13 e14
      go_simp
      refine hK.out _ _ ?_
      exact ⟨(fun jz => if jz = 21 then .slice (some ⟨b, 0, none⟩) R Cb else if jz = 22 then .int .i64 (a : Int) else if jz = 23 then .pointer (some ⟨b, a, none⟩) else v jz), rfl, ⟨(fun h => hR.st (upd_false h)), hR.s1.keepM rfl (fun h hx => h (upd_false hx)), hR.s2.keep rfl, hR.w1.keepM rfl (fun h j hj => upd_on (h j hj)), hR.w2.keepM rfl (fun h j hj => upd_on (h j hj)), hR.w3.keepM rfl (fun h j hj => upd_on (h j hj)), hR.w6.keepM rfl (fun h j hj => upd_on (h j hj)), hR.w7.keepM rfl (fun h j hj => upd_on (h j hj)), hR.w8.keepM rfl (fun h j hj => upd_on (h j hj)), hR.w11.keepM rfl (fun h j hj => upd_on (h j hj)), hR.w12.keepM rfl (fun h j hj => upd_on (h j hj)), hR.w13.keepM rfl (fun h j hj => upd_on (h j hj)), (fun _ j hj => upd_on (hw j hj)), hR.w16.keepM rfl (fun h j hj => upd_on (h j hj)), hR.w18.keepM rfl (fun h j hj => upd_on (h j hj)), hR.w19.keepM rfl (fun h j hj => upd_on (h j hj)), hR.w20.keepM rfl (fun h j hj => upd_on (h j hj)), hR.w22.keepM rfl (fun h j hj => upd_on (h j hj)), hR.w23.keepM rfl (fun h j hj => upd_on (h j hj)), hR.w24.keepM rfl (fun h j hj => upd_on (h j hj)), hR.w25.keepM rfl (fun h j hj => upd_on (h j hj)), hR.w26.keepM rfl (fun h j hj => upd_on (h j hj)), hR.w27.keepM rfl (fun h j hj => upd_on (h j hj)), hR.f0.keep rfl, hR.f1.keep rfl, hR.f2.keep rfl, hR.f3.keep rfl, hR.f4.keep rfl, hR.f5.keep rfl, hR.f6.keep rfl, hR.f7.keep rfl, hR.f8.keep rfl, hR.f9.keep rfl, hR.f10.keep rfl, hR.f11.keep rfl, hR.f12.keep rfl, (fun _ => rfl), (fun _ => rfl), (fun _ => rfl), hR.f16.keep rfl, hR.f17.keep rfl, hR.f18.keep rfl, hR.f19.keep rfl, hR.f20.keep rfl, hR.f21.keep rfl, hR.f22.keep rfl, hR.f23.keep rfl, hR.f24.keep rfl, hR.f26.keep rfl⟩⟩
    refine EachOf.cons [15] rfl (by kernel_rfl) ?_ ?_
    · rintro L A W ⟨v, rfl, hR⟩ hi hw K hK
      have hk : L 25 = false := hR.w25.not hi rfl
      have e15 := hR.f15 (hw 15 (by simp))
      simp only [e15]
      clear e15
      have q0 := HG.out.top a (by omega)
      have q1 := (hR.st hk).cell (p := ⟨b, a, none⟩) HG.out.hb
      rw [q0] at q1
      go_simp
      refine hK.out _ _ ?_
      exact ⟨(fun jz => if jz = 23 then .pointer (some ⟨b, a, none⟩) else if jz = 24 then .slice (some ⟨G a, 0, none⟩) n (C a) else v jz), rfl, ⟨(fun h => hR.st (upd_false h)), hR.s1.keepM rfl (fun h hx => h (upd_false hx)), hR.s2.keep rfl, hR.w1.keepM rfl (fun h j hj => upd_on (h j hj)), hR.w2.keepM rfl (fun h j hj => upd_on (h j hj)), hR.w3.keepM rfl (fun h j hj => upd_on (h j hj)), hR.w6.keepM rfl (fun h j hj => upd_on (h j hj)), hR.w7.keepM rfl (fun h j hj => upd_on (h j hj)), hR.w8.keepM rfl (fun h j hj => upd_on (h j hj)), hR.w11.keepM rfl (fun h j hj => upd_on (h j hj)), hR.w12.keepM rfl (fun h j hj => upd_on (h j hj)), hR.w13.keepM rfl (fun h j hj => upd_on (h j hj)), hR.w15.keepM rfl (fun h j hj => upd_on (h j hj)), (fun _ j hj => upd_on (hw j hj)), hR.w18.keepM rfl (fun h j hj => upd_on (h j hj)), hR.w19.keepM rfl (fun h j hj => upd_on (h j hj)), hR.w20.keepM rfl (fun h j hj => upd_on (h j hj)), hR.w22.keepM rfl (fun h j hj => upd_on (h j hj)), hR.w23.keepM rfl (fun h j hj => upd_on (h j hj)), hR.w24.keepM rfl (fun h j hj => upd_on (h j hj)), hR.w25.keepM rfl (fun h j hj => upd_on (h j hj)), hR.w26.keepM rfl (fun h j hj => upd_on (h j hj)), hR.w27.keepM rfl (fun h j hj => upd_on (h j hj)), hR.f0.keep rfl, hR.f1.keep rfl, hR.f2.keep rfl, hR.f3.keep rfl, hR.f4.keep rfl, hR.f5.keep rfl, hR.f6.keep rfl, hR.f7.keep rfl, hR.f8.keep rfl, hR.f9.keep rfl, hR.f10.keep rfl, hR.f11.keep rfl, hR.f12.keep rfl, hR.f13.keep rfl, hR.f14.keep rfl, (fun _ => rfl), (fun _ => rfl), hR.f17.keep rfl, hR.f18.keep rfl, hR.f19.keep rfl, hR.f20.keep rfl, hR.f21.keep rfl, hR.f22.keep rfl, hR.f23.keep rfl, hR.f24.keep rfl, hR.f26.keep rfl⟩⟩
    refine EachOf.cons [] rfl (by kernel_rfl) ?_ ?_
    · rintro L A W ⟨v, rfl, hR⟩ hi hw K hK
      have hk : L 25 = false := hR.w25.not (hR.w20.not (hR.w19.not (hR.w18.not hi rfl) rfl) rfl) rfl
      go_simp
      refine hK.out _ _ ?_
      exact ⟨(fun jz => if jz = 25 then .pointer (some ⟨eb, 0, none⟩) else v jz), rfl, ⟨(fun h => hR.st (upd_false h)), hR.s1.keepM rfl (fun h hx => h (upd_false hx)), hR.s2.keep rfl, hR.w1.keepM rfl (fun h j hj => upd_on (h j hj)), hR.w2.keepM rfl (fun h j hj => upd_on (h j hj)), hR.w3.keepM rfl (fun h j hj => upd_on (h j hj)), hR.w6.keepM rfl (fun h j hj => upd_on (h j hj)), hR.w7.keepM rfl (fun h j hj => upd_on (h j hj)), hR.w8.keepM rfl (fun h j hj => upd_on (h j hj)), hR.w11.keepM rfl (fun h j hj => upd_on (h j hj)), hR.w12.keepM rfl (fun h j hj => upd_on (h j hj)), hR.w13.keepM rfl (fun h j hj => upd_on (h j hj)), hR.w15.keepM rfl (fun h j hj => upd_on (h j hj)), hR.w16.keepM rfl (fun h j hj => upd_on (h j hj)), hR.w18.keepM rfl (fun h j hj => upd_on (h j hj)), hR.w19.keepM rfl (fun h j hj => upd_on (h j hj)), hR.w20.keepM rfl (fun h j hj => upd_on (h j hj)), hR.w22.keepM rfl (fun h j hj => upd_on (h j hj)), hR.w23.keepM rfl (fun h j hj => upd_on (h j hj)), hR.w24.keepM rfl (fun h j hj => upd_on (h j hj)), hR.w25.keepM rfl (fun h j hj => upd_on (h j hj)), hR.w26.keepM rfl (fun h j hj => upd_on (h j hj)), hR.w27.keepM rfl (fun h j hj => upd_on (h j hj)), hR.f0.keep rfl, hR.f1.keep rfl, hR.f2.keep rfl, hR.f3.keep rfl, hR.f4.keep rfl, hR.f5.keep rfl, hR.f6.keep rfl, hR.f7.keep rfl, hR.f8.keep rfl, hR.f9.keep rfl, hR.f10.keep rfl, hR.f11.keep rfl, hR.f12.keep rfl, hR.f13.keep rfl, hR.f14.keep rfl, hR.f15.keep rfl, hR.f16.keep rfl, (fun _ => rfl), hR.f18.keep rfl, hR.f19.keep rfl, hR.f20.keep rfl, hR.f21.keep rfl, hR.f22.keep rfl, hR.f23.keep rfl, hR.f24.keep rfl, hR.f26.keep rfl⟩⟩
    refine EachOf.cons [17] rfl (by kernel_rfl) ?_ ?_
    · rintro L A W ⟨v, rfl, hR⟩ hi hw K hK
      have hk : L 25 = false := hR.w25.not (hR.w20.not (hR.w19.not hi rfl) rfl) rfl
      have e17 := hR.f17 (hw 17 (by simp))
      simp only [e17]
      clear e17
      go_simp
      refine hK.out _ _ ?_
      exact ⟨(fun jz => if jz = 25 then .pointer (some ⟨eb, 0, none⟩) else if jz = 26 then .pointer (some ⟨eb, 0, none⟩) else v jz), rfl, ⟨(fun h => hR.st (upd_false h)), hR.s1.keepM rfl (fun h hx => h (upd_false hx)), hR.s2.keep rfl, hR.w1.keepM rfl (fun h j hj => upd_on (h j hj)), hR.w2.keepM rfl (fun h j hj => upd_on (h j hj)), hR.w3.keepM rfl (fun h j hj => upd_on (h j hj)), hR.w6.keepM rfl (fun h j hj => upd_on (h j hj)), hR.w7.keepM rfl (fun h j hj => upd_on (h j hj)), hR.w8.keepM rfl (fun h j hj => upd_on (h j hj)), hR.w11.keepM rfl (fun h j hj => upd_on (h j hj)), hR.w12.keepM rfl (fun h j hj => upd_on (h j hj)), hR.w13.keepM rfl (fun h j hj => upd_on (h j hj)), hR.w15.keepM rfl (fun h j hj => upd_on (h j hj)), hR.w16.keepM rfl (fun h j hj => upd_on (h j hj)), (fun _ j hj => upd_on (hw j hj)), hR.w19.keepM rfl (fun h j hj => upd_on (h j hj)), hR.w20.keepM rfl (fun h j hj => upd_on (h j hj)), hR.w22.keepM rfl (fun h j hj => upd_on (h j hj)), hR.w23.keepM rfl (fun h j hj => upd_on (h j hj)), hR.w24.keepM rfl (fun h j hj => upd_on (h j hj)), hR.w25.keepM rfl (fun h j hj => upd_on (h j hj)), hR.w26.keepM rfl (fun h j hj => upd_on (h j hj)), hR.w27.keepM rfl (fun h j hj => upd_on (h j hj)), hR.f0.keep rfl, hR.f1.keep rfl, hR.f2.keep rfl, hR.f3.keep rfl, hR.f4.keep rfl, hR.f5.keep rfl, hR.f6.keep rfl, hR.f7.keep rfl, hR.f8.keep rfl, hR.f9.keep rfl, hR.f10.keep rfl, hR.f11.keep rfl, hR.f12.keep rfl, hR.f13.keep rfl, hR.f14.keep rfl, hR.f15.keep rfl, hR.f16.keep rfl, (fun _ => rfl), (fun _ => rfl), hR.f19.keep rfl, hR.f20.keep rfl, hR.f21.keep rfl, hR.f22.keep rfl, hR.f23.keep rfl, hR.f24.keep rfl, hR.f26.keep rfl⟩⟩
    refine EachOf.cons [18] rfl (by kernel_rfl) ?_ ?_
    · rintro L A W ⟨v, rfl, hR⟩ hi hw K hK
      have hk : L 25 = false := hR.w25.not (hR.w20.not hi rfl) rfl
      have e18 := hR.f18 (hw 18 (by simp))
      simp only [e18]
      clear e18
      go_simp
      refine hK.out _ _ ?_
      exact ⟨(fun jz => if jz = 26 then .pointer (some ⟨eb, 0, none⟩) else if jz = 27 then .pointer (some ⟨eb, 0, none⟩) else v jz), rfl, ⟨(fun h => hR.st (upd_false h)), hR.s1.keepM rfl (fun h hx => h (upd_false hx)), hR.s2.keep rfl, hR.w1.keepM rfl (fun h j hj => upd_on (h j hj)), hR.w2.keepM rfl (fun h j hj => upd_on (h j hj)), hR.w3.keepM rfl (fun h j hj => upd_on (h j hj)), hR.w6.keepM rfl (fun h j hj => upd_on (h j hj)), hR.w7.keepM rfl (fun h j hj => upd_on (h j hj)), hR.w8.keepM rfl (fun h j hj => upd_on (h j hj)), hR.w11.keepM rfl (fun h j hj => upd_on (h j hj)), hR.w12.keepM rfl (fun h j hj => upd_on (h j hj)), hR.w13.keepM rfl (fun h j hj => upd_on (h j hj)), hR.w15.keepM rfl (fun h j hj => upd_on (h j hj)), hR.w16.keepM rfl (fun h j hj => upd_on (h j hj)), hR.w18.keepM rfl (fun h j hj => upd_on (h j hj)), (fun _ j hj => upd_on (hw j hj)), hR.w20.keepM rfl (fun h j hj => upd_on (h j hj)), hR.w22.keepM rfl (fun h j hj => upd_on (h j hj)), hR.w23.keepM rfl (fun h j hj => upd_on (h j hj)), hR.w24.keepM rfl (fun h j hj => upd_on (h j hj)), hR.w25.keepM rfl (fun h j hj => upd_on (h j hj)), hR.w26.keepM rfl (fun h j hj => upd_on (h j hj)), hR.w27.keepM rfl (fun h j hj => upd_on (h j hj)), hR.f0.keep rfl, hR.f1.keep rfl, hR.f2.keep rfl, hR.f3.keep rfl, hR.f4.keep rfl, hR.f5.keep rfl, hR.f6.keep rfl, hR.f7.keep rfl, hR.f8.keep rfl, hR.f9.keep rfl, hR.f10.keep rfl, hR.f11.keep rfl, hR.f12.keep rfl, hR.f13.keep rfl, hR.f14.keep rfl, hR.f15.keep rfl, hR.f16.keep rfl, hR.f17.keep rfl, (fun _ => rfl), (fun _ => rfl), hR.f20.keep rfl, hR.f21.keep rfl, hR.f22.keep rfl, hR.f23.keep rfl, hR.f24.keep rfl, hR.f26.keep rfl⟩⟩
    refine EachOf.cons [19] rfl (by kernel_rfl) ?_ ?_
    · rintro L A W ⟨v, rfl, hR⟩ hi hw K hK
      have hk : L 25 = false := hR.w25.not hi rfl
      have e19 := hR.f19 (hw 19 (by simp))
      simp only [e19]
      clear e19
      have q0 := HE.out.c0
      have q1 := (hR.st hk).cell (p := ⟨eb, 0, none⟩) HE.out.hb
      rw [q0] at q1
      go_simp
      refine hK.out _ _ ?_
      exact ⟨(fun jz => if jz = 27 then .pointer (some ⟨eb, 0, none⟩) else if jz = 28 then .slice (some ⟨b, 0, none⟩) R Cb else v jz), rfl, ⟨(fun h => hR.st (upd_false h)), hR.s1.keepM rfl (fun h hx => h (upd_false hx)), hR.s2.keep rfl, hR.w1.keepM rfl (fun h j hj => upd_on (h j hj)), hR.w2.keepM rfl (fun h j hj => upd_on (h j hj)), hR.w3.keepM rfl (fun h j hj => upd_on (h j hj)), hR.w6.keepM rfl (fun h j hj => upd_on (h j hj)), hR.w7.keepM rfl (fun h j hj => upd_on (h j hj)), hR.w8.keepM rfl (fun h j hj => upd_on (h j hj)), hR.w11.keepM rfl (fun h j hj => upd_on (h j hj)), hR.w12.keepM rfl (fun h j hj => upd_on (h j hj)), hR.w13.keepM rfl (fun h j hj => upd_on (h j hj)), hR.w15.keepM rfl (fun h j hj => upd_on (h j hj)), hR.w16.keepM rfl (fun h j hj => upd_on (h j hj)), hR.w18.keepM rfl (fun h j hj => upd_on (h j hj)), hR.w19.keepM rfl (fun h j hj => upd_on (h j hj)), (fun _ j hj => upd_on (hw j hj)), hR.w22.keepM rfl (fun h j hj => upd_on (h j hj)), hR.w23.keepM rfl (fun h j hj => upd_on (h j hj)), hR.w24.keepM rfl (fun h j hj => upd_on (h j hj)), hR.w25.keepM rfl (fun h j hj => upd_on (h j hj)), hR.w26.keepM rfl (fun h j hj => upd_on (h j hj)), hR.w27.keepM rfl (fun h j hj => upd_on (h j hj)), hR.f0.keep rfl, hR.f1.keep rfl, hR.f2.keep rfl, hR.f3.keep rfl, hR.f4.keep rfl, hR.f5.keep rfl, hR.f6.keep rfl, hR.f7.keep rfl, hR.f8.keep rfl, hR.f9.keep rfl, hR.f10.keep rfl, hR.f11.keep rfl, hR.f12.keep rfl, hR.f13.keep rfl, hR.f14.keep rfl, hR.f15.keep rfl, hR.f16.keep rfl, hR.f17.keep rfl, hR.f18.keep rfl, (fun _ => rfl), (fun _ => rfl), hR.f21.keep rfl, hR.f22.keep rfl, hR.f23.keep rfl, hR.f24.keep rfl, hR.f26.keep rfl⟩⟩
    refine EachOf.cons [] rfl (by kernel_rfl) ?_ ?_
    · rintro L A W ⟨v, rfl, hR⟩ hi hw K hK
      have hk : L 25 = false := hR.w25.not (hR.w23.not (hR.w22.not hi rfl) rfl) rfl
      go_simp
      refine hK.out _ _ ?_
      exact ⟨(fun jz => if jz = 29 then .int .i64 (k : Int) else v jz), rfl, ⟨(fun h => hR.st (upd_false h)), hR.s1.keepM rfl (fun h hx => h (upd_false hx)), hR.s2.keep rfl, hR.w1.keepM rfl (fun h j hj => upd_on (h j hj)), hR.w2.keepM rfl (fun h j hj => upd_on (h j hj)), hR.w3.keepM rfl (fun h j hj => upd_on (h j hj)), hR.w6.keepM rfl (fun h j hj => upd_on (h j hj)), hR.w7.keepM rfl (fun h j hj => upd_on (h j hj)), hR.w8.keepM rfl (fun h j hj => upd_on (h j hj)), hR.w11.keepM rfl (fun h j hj => upd_on (h j hj)), hR.w12.keepM rfl (fun h j hj => upd_on (h j hj)), hR.w13.keepM rfl (fun h j hj => upd_on (h j hj)), hR.w15.keepM rfl (fun h j hj => upd_on (h j hj)), hR.w16.keepM rfl (fun h j hj => upd_on (h j hj)), hR.w18.keepM rfl (fun h j hj => upd_on (h j hj)), hR.w19.keepM rfl (fun h j hj => upd_on (h j hj)), hR.w20.keepM rfl (fun h j hj => upd_on (h j hj)), hR.w22.keepM rfl (fun h j hj => upd_on (h j hj)), hR.w23.keepM rfl (fun h j hj => upd_on (h j hj)), hR.w24.keepM rfl (fun h j hj => upd_on (h j hj)), hR.w25.keepM rfl (fun h j hj => upd_on (h j hj)), hR.w26.keepM rfl (fun h j hj => upd_on (h j hj)), hR.w27.keepM rfl (fun h j hj => upd_on (h j hj)), hR.f0.keep rfl, hR.f1.keep rfl, hR.f2.keep rfl, hR.f3.keep rfl, hR.f4.keep rfl, hR.f5.keep rfl, hR.f6.keep rfl, hR.f7.keep rfl, hR.f8.keep rfl, hR.f9.keep rfl, hR.f10.keep rfl, hR.f11.keep rfl, hR.f12.keep rfl, hR.f13.keep rfl, hR.f14.keep rfl, hR.f15.keep rfl, hR.f16.keep rfl, hR.f17.keep rfl, hR.f18.keep rfl, hR.f19.keep rfl, hR.f20.keep rfl, (fun _ => rfl), hR.f22.keep rfl, hR.f23.keep rfl, hR.f24.keep rfl, hR.f26.keep rfl⟩⟩
    refine EachOf.cons [20, 21] rfl (by kernel_rfl) ?_ ?_
    · rintro L A W ⟨v, rfl, hR⟩ hi hw K hK
      have hk : L 25 = false := hR.w25.not (hR.w23.not hi rfl) rfl
      have e20 := hR.f20 (hw 20 (by simp))
      have e21 := hR.f21 (hw 21 (by simp))
      simp only [e20, e21]
      clear e20 e21
      go_simp
      refine hK.out _ _ ?_
      exact ⟨(fun jz => if jz = 28 then .slice (some ⟨b, 0, none⟩) R Cb else if jz = 29 then .int .i64 (k : Int) else if jz = 30 then .pointer (some ⟨b, k, none⟩) else v jz), rfl, ⟨(fun h => hR.st (upd_false h)), hR.s1.keepM rfl (fun h hx => h (upd_false hx)), hR.s2.keep rfl, hR.w1.keepM rfl (fun h j hj => upd_on (h j hj)), hR.w2.keepM rfl (fun h j hj => upd_on (h j hj)), hR.w3.keepM rfl (fun h j hj => upd_on (h j hj)), hR.w6.keepM rfl (fun h j hj => upd_on (h j hj)), hR.w7.keepM rfl (fun h j hj => upd_on (h j hj)), hR.w8.keepM rfl (fun h j hj => upd_on (h j hj)), hR.w11.keepM rfl (fun h j hj => upd_on (h j hj)), hR.w12.keepM rfl (fun h j hj => upd_on (h j hj)), hR.w13.keepM rfl (fun h j hj => upd_on (h j hj)), hR.w15.keepM rfl (fun h j hj => upd_on (h j hj)), hR.w16.keepM rfl (fun h j hj => upd_on (h j hj)), hR.w18.keepM rfl (fun h j hj => upd_on (h j hj)), hR.w19.keepM rfl (fun h j hj => upd_on (h j hj)), hR.w20.keepM rfl (fun h j hj => upd_on (h j hj)), (fun _ j hj => upd_on (hw j hj)), hR.w23.keepM rfl (fun h j hj => upd_on (h j hj)), hR.w24.keepM rfl (fun h j hj => upd_on (h j hj)), hR.w25.keepM rfl (fun h j hj => upd_on (h j hj)), hR.w26.keepM rfl (fun h j hj => upd_on (h j hj)), hR.w27.keepM rfl (fun h j hj => upd_on (h j hj)), hR.f0.keep rfl, hR.f1.keep rfl, hR.f2.keep rfl, hR.f3.keep rfl, hR.f4.keep rfl, hR.f5.keep rfl, hR.f6.keep rfl, hR.f7.keep rfl, hR.f8.keep rfl, hR.f9.keep rfl, hR.f10.keep rfl, hR.f11.keep rfl, hR.f12.keep rfl, hR.f13.keep rfl, hR.f14.keep rfl, hR.f15.keep rfl, hR.f16.keep rfl, hR.f17.keep rfl, hR.f18.keep rfl, hR.f19.keep rfl, (fun _ => rfl), (fun _ => rfl), (fun _ => rfl), hR.f23.keep rfl, hR.f24.keep rfl, hR.f26.keep rfl⟩⟩
    refine EachOf.cons [22] rfl (by kernel_rfl) ?_ ?_
    · rintro L A W ⟨v, rfl, hR⟩ hi hw K hK
      have hk : L 25 = false := hR.w25.not hi rfl
      have e22 := hR.f22 (hw 22 (by simp))
      simp only [e22]
      clear e22
      have q0 := HG.out.top k (by omega)
      have q1 := (hR.st hk).cell (p := ⟨b, k, none⟩) HG.out.hb
      rw [q0] at q1
      go_simp
      refine hK.out _ _ ?_
      exact ⟨(fun jz => if jz = 30 then .pointer (some ⟨b, k, none⟩) else if jz = 31 then .slice (some ⟨G k, 0, none⟩) n (C k) else v jz), rfl, ⟨(fun h => hR.st (upd_false h)), hR.s1.keepM rfl (fun h hx => h (upd_false hx)), hR.s2.keep rfl, hR.w1.keepM rfl (fun h j hj => upd_on (h j hj)), hR.w2.keepM rfl (fun h j hj => upd_on (h j hj)), hR.w3.keepM rfl (fun h j hj => upd_on (h j hj)), hR.w6.keepM rfl (fun h j hj => upd_on (h j hj)), hR.w7.keepM rfl (fun h j hj => upd_on (h j hj)), hR.w8.keepM rfl (fun h j hj => upd_on (h j hj)), hR.w11.keepM rfl (fun h j hj => upd_on (h j hj)), hR.w12.keepM rfl (fun h j hj => upd_on (h j hj)), hR.w13.keepM rfl (fun h j hj => upd_on (h j hj)), hR.w15.keepM rfl (fun h j hj => upd_on (h j hj)), hR.w16.keepM rfl (fun h j hj => upd_on (h j hj)), hR.w18.keepM rfl (fun h j hj => upd_on (h j hj)), hR.w19.keepM rfl (fun h j hj => upd_on (h j hj)), hR.w20.keepM rfl (fun h j hj => upd_on (h j hj)), hR.w22.keepM rfl (fun h j hj => upd_on (h j hj)), (fun _ j hj => upd_on (hw j hj)), hR.w24.keepM rfl (fun h j hj => upd_on (h j hj)), hR.w25.keepM rfl (fun h j hj => upd_on (h j hj)), hR.w26.keepM rfl (fun h j hj => upd_on (h j hj)), hR.w27.keepM rfl (fun h j hj => upd_on (h j hj)), hR.f0.keep rfl, hR.f1.keep rfl, hR.f2.keep rfl, hR.f3.keep rfl, hR.f4.keep rfl, hR.f5.keep rfl, hR.f6.keep rfl, hR.f7.keep rfl, hR.f8.keep rfl, hR.f9.keep rfl, hR.f10.keep rfl, hR.f11.keep rfl, hR.f12.keep rfl, hR.f13.keep rfl, hR.f14.keep rfl, hR.f15.keep rfl, hR.f16.keep rfl, hR.f17.keep rfl, hR.f18.keep rfl, hR.f19.keep rfl, hR.f20.keep rfl, hR.f21.keep rfl, (fun _ => rfl), (fun _ => rfl), hR.f24.keep rfl, hR.f26.keep rfl⟩⟩
    refine EachOf.cons [3, 4] rfl (by kernel_rfl) ?_ ?_
    · rintro L A W ⟨v, rfl, hR⟩ hi hw K hK
      have hk : L 25 = false := hR.w25.not hi rfl
      have e3 := hR.f3 (hw 3 (by simp))
      have e4 := hR.f4 (hw 4 (by simp))
      simp only [e3, e4]
      clear e3 e4
      go_simp
      refine hK.out _ _ ?_
      exact ⟨(fun jz => if jz = 11 then .slice (some ⟨b, 0, none⟩) R Cb else if jz = 12 then .int .i64 (k : Int) else if jz = 32 then .pointer (some ⟨b, k, none⟩) else v jz), rfl, ⟨(fun h => hR.st (upd_false h)), hR.s1.keepM rfl (fun h hx => h (upd_false hx)), hR.s2.keep rfl, hR.w1.keepM rfl (fun h j hj => upd_on (h j hj)), hR.w2.keepM rfl (fun h j hj => upd_on (h j hj)), hR.w3.keepM rfl (fun h j hj => upd_on (h j hj)), hR.w6.keepM rfl (fun h j hj => upd_on (h j hj)), hR.w7.keepM rfl (fun h j hj => upd_on (h j hj)), hR.w8.keepM rfl (fun h j hj => upd_on (h j hj)), hR.w11.keepM rfl (fun h j hj => upd_on (h j hj)), hR.w12.keepM rfl (fun h j hj => upd_on (h j hj)), hR.w13.keepM rfl (fun h j hj => upd_on (h j hj)), hR.w15.keepM rfl (fun h j hj => upd_on (h j hj)), hR.w16.keepM rfl (fun h j hj => upd_on (h j hj)), hR.w18.keepM rfl (fun h j hj => upd_on (h j hj)), hR.w19.keepM rfl (fun h j hj => upd_on (h j hj)), hR.w20.keepM rfl (fun h j hj => upd_on (h j hj)), hR.w22.keepM rfl (fun h j hj => upd_on (h j hj)), hR.w23.keepM rfl (fun h j hj => upd_on (h j hj)), (fun _ j hj => upd_on (hw j hj)), hR.w25.keepM rfl (fun h j hj => upd_on (h j hj)), hR.w26.keepM rfl (fun h j hj => upd_on (h j hj)), hR.w27.keepM rfl (fun h j hj => upd_on (h j hj)), hR.f0.keep rfl, hR.f1.keep rfl, hR.f2.keep rfl, (fun _ => rfl), (fun _ => rfl), hR.f5.keep rfl, hR.f6.keep rfl, hR.f7.keep rfl, hR.f8.keep rfl, hR.f9.keep rfl, hR.f10.keep rfl, hR.f11.keep rfl, hR.f12.keep rfl, hR.f13.keep rfl, hR.f14.keep rfl, hR.f15.keep rfl, hR.f16.keep rfl, hR.f17.keep rfl, hR.f18.keep rfl, hR.f19.keep rfl, hR.f20.keep rfl, hR.f21.keep rfl, hR.f22.keep rfl, hR.f23.keep rfl, (fun _ => rfl), hR.f26.keep rfl⟩⟩
    refine EachOf.cons [0, 1, 2, 3, 4, 8, 10, 11, 12, 13, 14, 15, 16, 20, 23, 24] rfl (by kernel_rfl) ?_ ?_
    · rintro L A W ⟨v, rfl, hR⟩ hi hw K hK
      have e24 := hR.f24 (hw 24 (by simp))
      have e16 := hR.f16 (hw 16 (by simp))
      simp only [e24, e16]
      clear e24 e16
      have hk2 : L 27 = false := hR.w27.not hi rfl
      have q1 := (hR.st hi).cell (p := ⟨b, k, none⟩) HG.out.hb
      rw [HG.out.top k (by omega)] at q1
      have q2 := (hR.st hi).frozen (p := ⟨b, k, none⟩) HG.out.hb
      rw [HG.out.tfz k (by omega)] at q2
      go_simp
      refine hK.out _ _ ?_
      exact ⟨(fun jz => if jz = 32 then .pointer (some ⟨b, k, none⟩) else if jz = 24 then .slice (some ⟨G a, 0, none⟩) n (C a) else v jz), rfl, ⟨(fun h => by simp [upd_self] at h), (fun _ _ => ⟨W, hR.st hi, rfl⟩), (fun h => absurd (upd_back h rfl) (by simp [hk2])), hR.w1.keepM rfl (fun h j hj => upd_on (h j hj)), hR.w2.keepM rfl (fun h j hj => upd_on (h j hj)), hR.w3.keepM rfl (fun h j hj => upd_on (h j hj)), hR.w6.keepM rfl (fun h j hj => upd_on (h j hj)), hR.w7.keepM rfl (fun h j hj => upd_on (h j hj)), hR.w8.keepM rfl (fun h j hj => upd_on (h j hj)), hR.w11.keepM rfl (fun h j hj => upd_on (h j hj)), hR.w12.keepM rfl (fun h j hj => upd_on (h j hj)), hR.w13.keepM rfl (fun h j hj => upd_on (h j hj)), hR.w15.keepM rfl (fun h j hj => upd_on (h j hj)), hR.w16.keepM rfl (fun h j hj => upd_on (h j hj)), hR.w18.keepM rfl (fun h j hj => upd_on (h j hj)), hR.w19.keepM rfl (fun h j hj => upd_on (h j hj)), hR.w20.keepM rfl (fun h j hj => upd_on (h j hj)), hR.w22.keepM rfl (fun h j hj => upd_on (h j hj)), hR.w23.keepM rfl (fun h j hj => upd_on (h j hj)), hR.w24.keepM rfl (fun h j hj => upd_on (h j hj)), (fun _ j hj => upd_on (hw j hj)), hR.w26.keepM rfl (fun h j hj => upd_on (h j hj)), hR.w27.keepM rfl (fun h j hj => upd_on (h j hj)), hR.f0.keep rfl, hR.f1.keep rfl, hR.f2.keep rfl, hR.f3.keep rfl, hR.f4.keep rfl, hR.f5.keep rfl, hR.f6.keep rfl, hR.f7.keep rfl, hR.f8.keep rfl, hR.f9.keep rfl, hR.f10.keep rfl, hR.f11.keep rfl, hR.f12.keep rfl, hR.f13.keep rfl, hR.f14.keep rfl, hR.f15.keep rfl, (fun _ => rfl), hR.f17.keep rfl, hR.f18.keep rfl, hR.f19.keep rfl, hR.f20.keep rfl, hR.f21.keep rfl, hR.f22.keep rfl, hR.f23.keep rfl, (fun _ => rfl), hR.f26.keep rfl⟩⟩
    refine EachOf.cons [0, 1, 2, 3, 4, 5, 6, 7, 8, 9, 10, 11, 12, 13, 14, 15, 16, 17, 18, 19, 20, 21, 22, 23, 24, 25] rfl (by kernel_rfl) ?_ ?_
    · rintro L A W ⟨v, rfl, hR⟩ hi hw K hK
      have e8 := hR.f8 (hw 8 (by simp))
      have e9 := hR.f9 (hw 9 (by simp))
      simp only [e8, e9]
      clear e8 e9
      have hk2 : L 27 = false := hR.w27.not hi rfl
      go_simp
      refine hK.out _ _ ?_
      exact ⟨(fun jz => if jz = 16 then .slice (some ⟨b, 0, none⟩) R Cb else if jz = 17 then .int .i64 (a : Int) else if jz = 33 then .pointer (some ⟨b, a, none⟩) else v jz), rfl, ⟨(fun h => absurd (hw 25 (by simp)) (by simp [upd_false h])), hR.s1.keepM rfl (fun h hx => h (upd_false hx)), (fun h => absurd (upd_back h rfl) (by simp [hk2])), hR.w1.keepM rfl (fun h j hj => upd_on (h j hj)), hR.w2.keepM rfl (fun h j hj => upd_on (h j hj)), hR.w3.keepM rfl (fun h j hj => upd_on (h j hj)), hR.w6.keepM rfl (fun h j hj => upd_on (h j hj)), hR.w7.keepM rfl (fun h j hj => upd_on (h j hj)), hR.w8.keepM rfl (fun h j hj => upd_on (h j hj)), hR.w11.keepM rfl (fun h j hj => upd_on (h j hj)), hR.w12.keepM rfl (fun h j hj => upd_on (h j hj)), hR.w13.keepM rfl (fun h j hj => upd_on (h j hj)), hR.w15.keepM rfl (fun h j hj => upd_on (h j hj)), hR.w16.keepM rfl (fun h j hj => upd_on (h j hj)), hR.w18.keepM rfl (fun h j hj => upd_on (h j hj)), hR.w19.keepM rfl (fun h j hj => upd_on (h j hj)), hR.w20.keepM rfl (fun h j hj => upd_on (h j hj)), hR.w22.keepM rfl (fun h j hj => upd_on (h j hj)), hR.w23.keepM rfl (fun h j hj => upd_on (h j hj)), hR.w24.keepM rfl (fun h j hj => upd_on (h j hj)), hR.w25.keepM rfl (fun h j hj => upd_on (h j hj)), (fun _ j hj => upd_on (hw j hj)), hR.w27.keepM rfl (fun h j hj => upd_on (h j hj)), hR.f0.keep rfl, hR.f1.keep rfl, hR.f2.keep rfl, hR.f3.keep rfl, hR.f4.keep rfl, hR.f5.keep rfl, hR.f6.keep rfl, hR.f7.keep rfl, (fun _ => rfl), (fun _ => rfl), hR.f10.keep rfl, hR.f11.keep rfl, hR.f12.keep rfl, hR.f13.keep rfl, hR.f14.keep rfl, hR.f15.keep rfl, hR.f16.keep rfl, hR.f17.keep rfl, hR.f18.keep rfl, hR.f19.keep rfl, hR.f20.keep rfl, hR.f21.keep rfl, hR.f22.keep rfl, hR.f23.keep rfl, hR.f24.keep rfl, (fun _ => rfl)⟩⟩
    refine EachOf.cons [0, 1, 2, 3, 4, 5, 6, 7, 8, 9, 10, 11, 12, 13, 14, 15, 16, 17, 18, 19, 20, 21, 22, 23, 24, 25, 26] rfl (by kernel_rfl) ?_ ?_
    · rintro L A W ⟨v, rfl, hR⟩ hi hw K hK
      have e26 := hR.f26 (hw 26 (by simp))
      have e23 := hR.f23 (hw 23 (by simp))
      simp only [e26, e23]
      clear e26 e23
      obtain ⟨W2, hb2, hW⟩ := hR.s1 (hw 25 (by simp)) hi
      have q1 := hb2.cell (p := ⟨b, a, none⟩) HG.out.hb
      rw [HG.out.top a (by omega)] at q1
      have q2 := hb2.frozen (p := ⟨b, a, none⟩) HG.out.hb
      rw [HG.out.tfz a (by omega)] at q2
      have q3 : W.cell? ⟨b, a, none⟩ = some (.slice (some ⟨G a, 0, none⟩) n (C a)) := by rw [hW, World.cell?_setCell_other _ _ _ _ (adr_ne (b := b) (i := k) (j := a) (by omega))]; exact q1
      have q4 : W.frozen? ⟨b, a, none⟩ = false := by rw [hW]; simpa using q2
      clear q1 q2
      have HW := Lib.hid hW
      clear hW
      go_simp
      refine hK.out _ _ ?_
      exact ⟨(fun jz => if jz = 33 then .pointer (some ⟨b, a, none⟩) else if jz = 31 then .slice (some ⟨G k, 0, none⟩) n (C k) else v jz), rfl, ⟨(fun h => absurd (hw 25 (by simp)) (by simp [upd_false h])), (fun _ h => by simp [upd_self] at h), (fun _ => ⟨W2, hb2, by rw [HW.out]⟩), hR.w1.keepM rfl (fun h j hj => upd_on (h j hj)), hR.w2.keepM rfl (fun h j hj => upd_on (h j hj)), hR.w3.keepM rfl (fun h j hj => upd_on (h j hj)), hR.w6.keepM rfl (fun h j hj => upd_on (h j hj)), hR.w7.keepM rfl (fun h j hj => upd_on (h j hj)), hR.w8.keepM rfl (fun h j hj => upd_on (h j hj)), hR.w11.keepM rfl (fun h j hj => upd_on (h j hj)), hR.w12.keepM rfl (fun h j hj => upd_on (h j hj)), hR.w13.keepM rfl (fun h j hj => upd_on (h j hj)), hR.w15.keepM rfl (fun h j hj => upd_on (h j hj)), hR.w16.keepM rfl (fun h j hj => upd_on (h j hj)), hR.w18.keepM rfl (fun h j hj => upd_on (h j hj)), hR.w19.keepM rfl (fun h j hj => upd_on (h j hj)), hR.w20.keepM rfl (fun h j hj => upd_on (h j hj)), hR.w22.keepM rfl (fun h j hj => upd_on (h j hj)), hR.w23.keepM rfl (fun h j hj => upd_on (h j hj)), hR.w24.keepM rfl (fun h j hj => upd_on (h j hj)), hR.w25.keepM rfl (fun h j hj => upd_on (h j hj)), hR.w26.keepM rfl (fun h j hj => upd_on (h j hj)), (fun _ j hj => upd_on (hw j hj)), hR.f0.keep rfl, hR.f1.keep rfl, hR.f2.keep rfl, hR.f3.keep rfl, hR.f4.keep rfl, hR.f5.keep rfl, hR.f6.keep rfl, hR.f7.keep rfl, hR.f8.keep rfl, hR.f9.keep rfl, hR.f10.keep rfl, hR.f11.keep rfl, hR.f12.keep rfl, hR.f13.keep rfl, hR.f14.keep rfl, hR.f15.keep rfl, hR.f16.keep rfl, hR.f17.keep rfl, hR.f18.keep rfl, hR.f19.keep rfl, hR.f20.keep rfl, hR.f21.keep rfl, hR.f22.keep rfl, (fun _ => rfl), hR.f24.keep rfl, (fun _ => rfl)⟩⟩
    exact EachOf.nil
  rintro L A W ⟨v, rfl, hR⟩ hL
  obtain ⟨W2, hb2, hW⟩ := hR.s2 (hL 27 (by simp))
  have G1 := (HG.out.on hb2).swap k a hk ha
  have E1 := ((HE.out.on hb2).far (c := b) (o := k) (v := .slice (some ⟨G a, 0, none⟩) n (C a)) (fun e => HN.out e.symm)).far (c := b) (o := a) (v := .slice (some ⟨G k, 0, none⟩) n (C k)) (fun e => HN.out e.symm)
  have O1 : Only (fun c => c = b ∨ c = G k) w W := by
    rw [hW]
    exact ((Only.of_below hb2).setCell ⟨b, k, none⟩ (.inl rfl) _).setCell ⟨b, a, none⟩ (.inl rfl) _
  rw [← hW] at G1 E1
  have HG1 := Lib.hid G1
  have HE1 := Lib.hid E1
  have HO1 := Lib.hid O1
  clear G1 E1 O1 hW hb2 W2 hR hL HG HE
  have ga : swN k a G a = G k := by unfold swN; rw [if_neg (by omega), if_pos rfl]
  have ca : swN k a C a = C k := by unfold swN; rw [if_neg (by omega), if_pos rfl]
  have HGA := Lib.hid ga
  have HCA := Lib.hid ca
  clear ga ca
  have p0 := HE1.out.c0
  have p1 := HG1.out.top a ha
  rw [HGA.out, HCA.out] at p1
  go_wp2_with fail
  clear p0 p1
  have S0 : Hid (Grid B0 W b R n (swN k a G) (swN k a C) (negE a 0 (swE k a E)) ∧ EBlk W eb (.slice (some ⟨b, 0, none⟩) R Cb) v1 v2 ∧ Only (fun c => c = b ∨ c = G k) w W) := ⟨by rw [negE_zero]; exact HG1.out, HE1.out, HO1.out⟩
  clear HG1 HE1 HO1
  go_loopg [42] n (fun g s42 wx => ∃ i : Nat, s42 = .int .i64 i ∧ g = n - i ∧ i ≤ n ∧ Hid (Grid B0 wx b R n (swN k a G) (swN k a C) (negE a i (swE k a E)) ∧ EBlk wx eb (.slice (some ⟨b, 0, none⟩) R Cb) v1 v2 ∧ Only (fun c => c = b ∨ c = G k) w wx))
  case atStart => exact ⟨0, rfl, rfl, Nat.zero_le _, S0⟩
  case round =>
    clear S0
    obtain ⟨i, rfl, rfl, hi, S⟩ := hrel
    rename World => W1
    by_cases hlt : i < n
    · have wk : IntKind.i64.wrap ((i : Int) + 1) = ((i + 1 : Nat) : Int) := by rw [IntWalk.i64_in _ (by omega)]; omega
      have p0 := S.out.2.1.c0
      have p1 := S.out.1.top a ha
      rw [HGA.out, HCA.out] at p1
      have p2 := S.out.1.cell a i ha hlt
      have p3 := S.out.1.fz a i ha hlt
      rw [HGA.out] at p2 p3
      have ev : negE a i (swE k a E) a i = E k i := by unfold negE swE; rw [if_neg (by omega), if_neg (by omega), if_pos rfl]
      rw [ev] at p2
      have hb := HB.out i hlt
      obtain ⟨x, hx⟩ : ∃ x, E k i = x := ⟨_, rfl⟩
      rw [hx] at p2 hb
      have HX := Lib.hid hx
      clear hx ev
      have wx : IntKind.i64.wrap (-x) = -x := IntWalk.i64_in _ (by omega)
      go_wp2_with fail
      have G2 := S.out.1.set a i ha hlt (-x)
      rw [HGA.out] at G2
      have es : setE (negE a i (swE k a E)) a i (-x) = negE a (i + 1) (swE k a E) := by
        rw [← negE_succ]
        have : swE k a E a i = x := by unfold swE; rw [if_neg (by omega), if_pos rfl]; exact HX.out
        rw [this]
      rw [es] at G2
      have E2 := S.out.2.1.far (c := G k) (o := i) (v := .int .i64 (-x)) (HRW.out k (by omega))
      have O2 := S.out.2.2.setCell ⟨G k, i, none⟩ (.inr rfl) (.int .i64 (-x))
      go_roundg (n - (i + 1))
      case measure => omega
      case rel => exact ⟨i + 1, rfl, rfl, by omega, G2, E2, O2⟩
    · have e : i = n := by omega
      subst e
      go_wp2_with fail
      go_end0
      exact ⟨rfl, S.out.2.1, S.out.1.congr fun i j hi hj => negE_ex k a _ hk E i j hj, S.out.2.2⟩

end Go.Proofs.Ytjggnmbdgagkoaa
