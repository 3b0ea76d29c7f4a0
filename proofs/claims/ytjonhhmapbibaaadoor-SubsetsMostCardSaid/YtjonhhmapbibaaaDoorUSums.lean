/- Layer 7: the sums of all subsets. -/
import Derived.Test.YtjonhhmapbibaaaDoorUBits
import Derived.Test.YtjonhhmapbibaaaDoorShelfG
namespace Go.Proofs.YtjonhhmapbibaaaDoor
open Go.ChangeShapes Go.WideShapes Go.ChangeAt Go.RowKit Go.Joins Go.Deep Go.Shelf
set_option linter.unusedVariables false

/-- The library's table of the lowest bits, as it is laid. -/
def DB (w : World) : Prop := 1 < w.heap.size ∧ TabAt 1 Lib.deBruijn64tab w
theorem DB.on {W W2 : World} (h : DB W) (hb : Below W.heap.size W W2) : DB W2 := ⟨Nat.lt_of_lt_of_le h.1 hb.size, fun j hj => (hb.cell (p := ⟨1, j, none⟩) h.1).trans (h.2 j hj)⟩
theorem tz_any (x : Nat) (hx : x < 18446744073709551616) (w : World) (h : DB w) :
    Calls Tryd.prog 37 #[.int .u64 (x : Int)] w fun e w' => e = .returned (.int .i64 (Lib.ctz 64 x : Nat)) ∧ w = w' :=
  (Any7.bits_TrailingZeros Tryd.layTz x hx w (fun _ => h.2)).mono fun e w' ⟨a, b⟩ => ⟨a, b.symm⟩
theorem and_le_pred {s : Nat} (h : 0 < s) : s &&& (s - 1) < s := Nat.lt_of_le_of_lt Nat.and_le_right (by omega)
def cutS (f : Nat → Int) (n k : Nat) : Nat → Int := fun j => if j < k then smS (bitI n j) f n else 0
theorem smS_zero (n : Nat) (f : Nat → Int) : smS (bitI n 0) f n = 0 := smS_none fun i _ => by unfold bitI; exact Nat.zero_testBit _

structure SumR (g M lg lo n lc s m d : Nat) (x y z : Int) (Wc : World) (L : Nat → Bool) (v : Nat → Value) (W : World) : Prop where
  st : L 15 = false → Below Wc.heap.size Wc W
  s1 : Had L 15 (∃ W2, Below Wc.heap.size Wc W2 ∧ W = W2.setCell ⟨g, s, none⟩ (.int .i64 z))
  w5 : Had L 5 (∀ j ∈ [4], L j = true)
  w6 : Had L 6 (∀ j ∈ [3, 5], L j = true)
  w7 : Had L 7 (∀ j ∈ [2, 6], L j = true)
  w8 : Had L 8 (∀ j ∈ [7], L j = true)
  w11 : Had L 11 (∀ j ∈ [9, 10], L j = true)
  w12 : Had L 12 (∀ j ∈ [11], L j = true)
  w13 : Had L 13 (∀ j ∈ [8, 12], L j = true)
  w14 : Had L 14 (∀ j ∈ [0, 1], L j = true)
  w15 : Had L 15 (∀ j ∈ [0, 1, 2, 3, 4, 5, 6, 7, 8, 9, 10, 11, 12, 13, 14], L j = true)
  f0 : Had L 0 (v 23 = .slice (some ⟨g, 0, none⟩) (M) (M))
  f1 : Had L 1 (v 24 = .int .u64 (s : Int))
  f2 : Had L 2 (v 25 = .slice (some ⟨g, 0, none⟩) (M) (M))
  f3 : Had L 3 (v 26 = .int .u64 (s : Int))
  f4 : Had L 4 (v 27 = .int .u64 (s : Int))
  f5 : Had L 5 (v 28 = .int .u64 ((s - 1 : Nat) : Int))
  f6 : Had L 6 (v 29 = .int .u64 (m : Int))
  f7 : Had L 7 (v 30 = .pointer (some ⟨g, m, none⟩))
  f8 : Had L 8 (v 31 = .int .i64 x)
  f9 : Had L 9 (v 32 = .slice (some ⟨lg, lo, none⟩) (n) (lc))
  f10 : Had L 10 (v 33 = .int .i64 (d : Int))
  f11 : Had L 11 (v 34 = .pointer (some ⟨lg, lo + d, none⟩))
  f12 : Had L 12 (v 35 = .int .i64 y)
  f13 : Had L 13 (v 36 = .int .i64 z)
  f14 : Had L 14 (v 37 = .pointer (some ⟨g, s, none⟩))
set_option maxRecDepth 100000 in
set_option maxHeartbeats 8000000 in
theorem sumsOf_any (la : Option Addr) (n lc : Nat) (f : Nat → Int) (w : World) (hl : IRow w la n f) (hd : DB w) (hn : n ≤ 11) (hf : ∀ i, i < n → -1125899906842624 ≤ f i ∧ f i ≤ 1125899906842624) :
    Calls Tryd.prog 21 #[.slice la n lc] w fun e w' => Below w.heap.size w w' ∧ ∃ g, e = .returned (.slice (some ⟨g, 0, none⟩) (2 ^ n) (2 ^ n)) ∧ NRow w.heap.size (2 ^ n) w' g (2 ^ n) (fun s => smS (bitI n s) f n) := by
  have hN : 2 ^ n ≤ 2048 := Nat.le_trans (Nat.pow_le_pow_right (by decide) hn) (by decide)
  have h0 := Nat.two_pow_pos n
  have hc := p2_cast n
  have CW := fun W => Lib.hid (whole_any n (by omega) W)
  have HSL := Lib.hid (fun s (h0 : 0 < s) (h : s < 2 ^ n) => And.intro (sum_low (f := f) h0 h (by omega : n ≤ 64)) (low_tz h0 h (by omega : n ≤ 64)))
  have HBD := Lib.hid (fun s => smS_bd (p := bitI n s) (f := f) (B := 1125899906842624) (by decide) hf)
  generalize hM : 2 ^ n = M at *
  have e1 : IntKind.i64.wrap (2 ^ n) = (M : Int) := by rw [hc, IntWalk.i64_in _ (by omega)]
  obtain ⟨i0, hi0, hz0, hz1, hz2⟩ := info_parts (show (Tryd.prog.info? 3).map (fun i => (i.zero, i.size, i.bytes)) = some (some (Value.int IntKind.i64 0), 1, 8) by kernel_rfl)
  have HL := Lib.hid hl
  have HD := Lib.hid hd
  have HF := Lib.hid hf
  clear hl hd hf
  go_enter Tryd.func21, Tryd.ntmps21
  go_upto_region 2 with (refine wpList_make_full _ rfl _ _ 22 rfl w.heap.size 3 i0 (.int .i64 0) 1 Tryd.underlying22 hi0 hz0 hz1 _ _ _ _ M rfl rfl rfl rfl (by rw [hz2]; omega) (by unfold maxLen; omega) (Nat.le_refl _) ?_; intro w6 ho hg)
  have hb6 : Below w.heap.size w w6 := ⟨hg.os, hg.tape, hg.output, hg.size, fun k hk => hg.block k hk (by simp)⟩
  obtain ⟨g, hsb⟩ : ∃ x, x = w.heap.size := ⟨_, rfl⟩
  have N0 := NRow.made (lo := w.heap.size) ho (Nat.le_refl _)
  rw [← hsb]
  have HG := Lib.hid hsb
  have S0 : Hid (NRow w.heap.size M w6 g M (cutS f n 1) ∧ Below w.heap.size w w6) := ⟨by
    rw [← hsb] at N0
    rw [← hsb]
    refine N0.cong fun l _ => ?_
    unfold cutS
    split
    · rename_i h
      have : l = 0 := by omega
      subst this
      exact smS_zero n f
    · rfl, hb6⟩
  clear ho hg hb6 N0 hsb hi0 hz0 hz1 hz2 i0
  go_wp2_with fail
  go_loopg [4] (M - 1) (fun g' s4 wx => ∃ s : Nat, s4 = .int .u64 s ∧ g' = M - s ∧ 1 ≤ s ∧ s ≤ M ∧ Hid (NRow w.heap.size M wx g M (cutS f n s) ∧ Below w.heap.size w wx))
  case atStart => exact ⟨1, rfl, rfl, Nat.le_refl _, h0, S0⟩
  case round =>
    clear S0
    obtain ⟨s, rfl, rfl, hs1, hs, S⟩ := hrel
    rename World => W1
    by_cases hlt : s < M
    · obtain ⟨hsum, t, ht⟩ := HSL.out s (by omega) hlt
      have htz := ht.tz
      have htn := ht.lt
      rw [htz] at hsum
      obtain ⟨m, hm⟩ : ∃ m, s &&& (s - 1) = m := ⟨_, rfl⟩
      have hms : m < s := by rw [← hm]; exact and_le_pred (by omega)
      rw [hm] at hsum
      obtain ⟨d, hdd⟩ : ∃ d, n - 1 - t = d := ⟨_, rfl⟩
      rw [hdd] at hsum
      have hand : bits .and .u64 (s : Int) ((s - 1 : Nat) : Int) = (m : Int) := by rw [bits_and_u64_nat _ _ (by omega) (by omega), hm]
      have k1 : IntKind.u64.wrap ((s : Int) - 1) = ((s - 1 : Nat) : Int) := by rw [IntWalk.u64_in _ (by omega)]; omega
      have k2 : IntKind.u64.wrap ((s : Int) + 1) = ((s + 1 : Nat) : Int) := by rw [IntWalk.u64_in _ (by omega)]; omega
      have k3 : IntKind.i64.wrap ((n : Int) - 1) = ((n - 1 : Nat) : Int) := by rw [IntWalk.i64_in _ (by omega)]; omega
      have k4 : IntKind.i64.wrap (((n - 1 : Nat) : Int) - t) = (d : Int) := by rw [IntWalk.i64_in _ (by omega)]; omega
      have b1 := HBD.out m
      have b2 := HBD.out s
      have b3 := HF.out d (by omega)
      obtain ⟨x, hx⟩ : ∃ x, smS (bitI n m) f n = x := ⟨_, rfl⟩
      obtain ⟨y, hy⟩ : ∃ y, f d = y := ⟨_, rfl⟩
      obtain ⟨z, hz⟩ : ∃ z, smS (bitI n s) f n = z := ⟨_, rfl⟩
      rw [hx, hy, hz] at hsum
      have k5 : IntKind.i64.wrap (x + y) = z := by rw [hsum, IntWalk.i64_in _ (by rw [hx] at b1; rw [hy] at b3; omega)]
      obtain ⟨lg, lo, el, hlg, hlc⟩ := (HL.out.on S.out.2) (by omega)
      have LF : Hid (W1.cell? ⟨lg, lo + d, none⟩ = some (.int .i64 y) ∧ lg < W1.heap.size) := ⟨by rw [← hy]; exact hlc d (by omega), hlg⟩
      have LS : Hid (W1.cell? ⟨g, m, none⟩ = some (.int .i64 x) ∧ g < W1.heap.size) := ⟨by rw [S.out.1.cell m (by omega)]; unfold cutS; rw [if_pos hms, hx], S.out.1.hb⟩
      have LO : Hid (W1.cell? ⟨g, s, none⟩ = some (.int .i64 0) ∧ W1.frozen? ⟨g, s, none⟩ = false ∧ g < W1.heap.size) := ⟨by rw [S.out.1.cell s hlt]; unfold cutS; rw [if_neg (Nat.lt_irrefl _)], S.out.1.fz s hlt, S.out.1.hb⟩
      have CT := fun W h => Lib.hid (tz_any s (by omega) W h)
      rw [htz] at CT
      have HDW := Lib.hid (HD.out.on S.out.2)
      have HZ := Lib.hid hz
      have HEL := Lib.hid el
      rw [el]
      have dd : (d : Int) < (n : Int) := by omega
      have hmM : m < M := by omega
      clear hx hy hz hsum ht htz el hlg hlc b1 b2 b3 hm hdd
      go_upto_region 6 with (first
        | (go_at_call 22; (with_reducible refine ((CW _).out).mono ?_); rintro e w' ⟨rfl, rfl⟩)
        | (go_at_call 37; (with_reducible refine ((CT _ HDW.out).out).mono ?_); rintro e w' ⟨rfl, rfl⟩))
      refine wp_region_each (fun L A W => ∃ (v : Nat → Value), A = ⟨#[_, _, _, _, _, _, _, _, _, _, _, _, _, _, _, _, _, _, _, _, _, _, _, v 23, v 24, v 25, v 26, v 27, v 28, v 29, v 30, v 31, v 32, v 33, v 34, v 35, v 36, v 37, _], []⟩ ∧ SumR g M lg lo n lc s m d x y z W1 L v W) (by kernel_rfl) (by kernel_rfl) ⟨fun jz => if jz = 23 then u23 else if jz = 24 then u24 else if jz = 25 then u25 else if jz = 26 then u26 else if jz = 27 then u27 else if jz = 28 then u28 else if jz = 29 then u29 else if jz = 30 then u30 else if jz = 31 then u31 else if jz = 32 then u32 else if jz = 33 then u33 else if jz = 34 then u34 else if jz = 35 then u35 else if jz = 36 then u36 else if jz = 37 then u37 else undef, rfl, ⟨(fun _ => Below.drew (Below.refl _ _)), Had.none, Had.none, Had.none, Had.none, Had.none, Had.none, Had.none, Had.none, Had.none, Had.none, Had.none, Had.none, Had.none, Had.none, Had.none, Had.none, Had.none, Had.none, Had.none, Had.none, Had.none, Had.none, Had.none, Had.none, Had.none⟩⟩ (rs := [0, 1, 2, 3, 4, 5, 6, 7, 8, 9, 10, 11, 12, 13, 14, 15]) (by kernel_rfl) ?_ ?_
      · refine EachOf.cons [] rfl (by kernel_rfl) ?_ ?_
        · rintro L A W ⟨v, rfl, hR⟩ hi hw K hK
          have hk : L 15 = false := hR.w15.not hi rfl
          go_simp
          refine hK.out _ _ ?_
          exact ⟨(fun jz => if jz = 23 then .slice (some ⟨g, 0, none⟩) (M) (M) else v jz), rfl, ⟨(fun h => hR.st (upd_false h)), hR.s1.k, hR.w5.o, hR.w6.o, hR.w7.o, hR.w8.o, hR.w11.o, hR.w12.o, hR.w13.o, hR.w14.o, hR.w15.o, (fun _ => rfl), hR.f1.k, hR.f2.k, hR.f3.k, hR.f4.k, hR.f5.k, hR.f6.k, hR.f7.k, hR.f8.k, hR.f9.k, hR.f10.k, hR.f11.k, hR.f12.k, hR.f13.k, hR.f14.k⟩⟩
        refine EachOf.cons [] rfl (by kernel_rfl) ?_ ?_
        · rintro L A W ⟨v, rfl, hR⟩ hi hw K hK
          have hk : L 15 = false := hR.w15.not hi rfl
          go_simp
          refine hK.out _ _ ?_
          exact ⟨(fun jz => if jz = 24 then .int .u64 (s : Int) else v jz), rfl, ⟨(fun h => hR.st (upd_false h)), hR.s1.k, hR.w5.o, hR.w6.o, hR.w7.o, hR.w8.o, hR.w11.o, hR.w12.o, hR.w13.o, hR.w14.o, hR.w15.o, hR.f0.k, (fun _ => rfl), hR.f2.k, hR.f3.k, hR.f4.k, hR.f5.k, hR.f6.k, hR.f7.k, hR.f8.k, hR.f9.k, hR.f10.k, hR.f11.k, hR.f12.k, hR.f13.k, hR.f14.k⟩⟩
        refine EachOf.cons [] rfl (by kernel_rfl) ?_ ?_
        · rintro L A W ⟨v, rfl, hR⟩ hi hw K hK
          have hk : L 15 = false := hR.w15.not hi rfl
          go_simp
          refine hK.out _ _ ?_
          exact ⟨(fun jz => if jz = 25 then .slice (some ⟨g, 0, none⟩) (M) (M) else v jz), rfl, ⟨(fun h => hR.st (upd_false h)), hR.s1.k, hR.w5.o, hR.w6.o, hR.w7.o, hR.w8.o, hR.w11.o, hR.w12.o, hR.w13.o, hR.w14.o, hR.w15.o, hR.f0.k, hR.f1.k, (fun _ => rfl), hR.f3.k, hR.f4.k, hR.f5.k, hR.f6.k, hR.f7.k, hR.f8.k, hR.f9.k, hR.f10.k, hR.f11.k, hR.f12.k, hR.f13.k, hR.f14.k⟩⟩
        refine EachOf.cons [] rfl (by kernel_rfl) ?_ ?_
        · rintro L A W ⟨v, rfl, hR⟩ hi hw K hK
          have hk : L 15 = false := hR.w15.not hi rfl
          go_simp
          refine hK.out _ _ ?_
          exact ⟨(fun jz => if jz = 26 then .int .u64 (s : Int) else v jz), rfl, ⟨(fun h => hR.st (upd_false h)), hR.s1.k, hR.w5.o, hR.w6.o, hR.w7.o, hR.w8.o, hR.w11.o, hR.w12.o, hR.w13.o, hR.w14.o, hR.w15.o, hR.f0.k, hR.f1.k, hR.f2.k, (fun _ => rfl), hR.f4.k, hR.f5.k, hR.f6.k, hR.f7.k, hR.f8.k, hR.f9.k, hR.f10.k, hR.f11.k, hR.f12.k, hR.f13.k, hR.f14.k⟩⟩
        refine EachOf.cons [] rfl (by kernel_rfl) ?_ ?_
        · rintro L A W ⟨v, rfl, hR⟩ hi hw K hK
          have hk : L 15 = false := hR.w15.not hi rfl
          go_simp
          refine hK.out _ _ ?_
          exact ⟨(fun jz => if jz = 27 then .int .u64 (s : Int) else v jz), rfl, ⟨(fun h => hR.st (upd_false h)), hR.s1.k, hR.w5.o, hR.w6.o, hR.w7.o, hR.w8.o, hR.w11.o, hR.w12.o, hR.w13.o, hR.w14.o, hR.w15.o, hR.f0.k, hR.f1.k, hR.f2.k, hR.f3.k, (fun _ => rfl), hR.f5.k, hR.f6.k, hR.f7.k, hR.f8.k, hR.f9.k, hR.f10.k, hR.f11.k, hR.f12.k, hR.f13.k, hR.f14.k⟩⟩
        refine EachOf.cons [4] rfl (by kernel_rfl) ?_ ?_
        · rintro L A W ⟨v, rfl, hR⟩ hi hw K hK
          have hk : L 15 = false := hR.w15.not hi rfl
          have e4 := hR.f4 (hw 4 (by simp))
          simp only [e4]
          clear e4
          go_simp
          refine hK.out _ _ ?_
          exact ⟨(fun jz => if jz = 27 then .int .u64 (s : Int) else if jz = 28 then .int .u64 ((s - 1 : Nat) : Int) else v jz), rfl, ⟨(fun h => hR.st (upd_false h)), hR.s1.k, (fun _ j hj => upd_on (hw j hj)), hR.w6.o, hR.w7.o, hR.w8.o, hR.w11.o, hR.w12.o, hR.w13.o, hR.w14.o, hR.w15.o, hR.f0.k, hR.f1.k, hR.f2.k, hR.f3.k, (fun _ => rfl), (fun _ => rfl), hR.f6.k, hR.f7.k, hR.f8.k, hR.f9.k, hR.f10.k, hR.f11.k, hR.f12.k, hR.f13.k, hR.f14.k⟩⟩
        refine EachOf.cons [3, 5] rfl (by kernel_rfl) ?_ ?_
        · rintro L A W ⟨v, rfl, hR⟩ hi hw K hK
          have hk : L 15 = false := hR.w15.not hi rfl
          have e3 := hR.f3 (hw 3 (by simp))
          have e5 := hR.f5 (hw 5 (by simp))
          simp only [e3, e5]
          clear e3 e5
          go_simp
          refine hK.out _ _ ?_
          exact ⟨(fun jz => if jz = 26 then .int .u64 (s : Int) else if jz = 28 then .int .u64 ((s - 1 : Nat) : Int) else if jz = 29 then .int .u64 (m : Int) else v jz), rfl, ⟨(fun h => hR.st (upd_false h)), hR.s1.k, hR.w5.o, (fun _ j hj => upd_on (hw j hj)), hR.w7.o, hR.w8.o, hR.w11.o, hR.w12.o, hR.w13.o, hR.w14.o, hR.w15.o, hR.f0.k, hR.f1.k, hR.f2.k, (fun _ => rfl), hR.f4.k, (fun _ => rfl), (fun _ => rfl), hR.f7.k, hR.f8.k, hR.f9.k, hR.f10.k, hR.f11.k, hR.f12.k, hR.f13.k, hR.f14.k⟩⟩
        refine EachOf.cons [2, 6] rfl (by kernel_rfl) ?_ ?_
        · rintro L A W ⟨v, rfl, hR⟩ hi hw K hK
          have hk : L 15 = false := hR.w15.not hi rfl
          have e2 := hR.f2 (hw 2 (by simp))
          have e6 := hR.f6 (hw 6 (by simp))
          simp only [e2, e6]
          clear e2 e6
          go_simp
          refine hK.out _ _ ?_
          exact ⟨(fun jz => if jz = 25 then .slice (some ⟨g, 0, none⟩) (M) (M) else if jz = 29 then .int .u64 (m : Int) else if jz = 30 then .pointer (some ⟨g, m, none⟩) else v jz), rfl, ⟨(fun h => hR.st (upd_false h)), hR.s1.k, hR.w5.o, hR.w6.o, (fun _ j hj => upd_on (hw j hj)), hR.w8.o, hR.w11.o, hR.w12.o, hR.w13.o, hR.w14.o, hR.w15.o, hR.f0.k, hR.f1.k, (fun _ => rfl), hR.f3.k, hR.f4.k, hR.f5.k, (fun _ => rfl), (fun _ => rfl), hR.f8.k, hR.f9.k, hR.f10.k, hR.f11.k, hR.f12.k, hR.f13.k, hR.f14.k⟩⟩
        refine EachOf.cons [7] rfl (by kernel_rfl) ?_ ?_
        · rintro L A W ⟨v, rfl, hR⟩ hi hw K hK
          have hk : L 15 = false := hR.w15.not hi rfl
          have e7 := hR.f7 (hw 7 (by simp))
          simp only [e7]
          clear e7
          have q0 := ((hR.st hk).cell (p := ⟨g, m, none⟩) LS.out.2).trans LS.out.1
          go_simp
          refine hK.out _ _ ?_
          exact ⟨(fun jz => if jz = 30 then .pointer (some ⟨g, m, none⟩) else if jz = 31 then .int .i64 x else v jz), rfl, ⟨(fun h => hR.st (upd_false h)), hR.s1.k, hR.w5.o, hR.w6.o, hR.w7.o, (fun _ j hj => upd_on (hw j hj)), hR.w11.o, hR.w12.o, hR.w13.o, hR.w14.o, hR.w15.o, hR.f0.k, hR.f1.k, hR.f2.k, hR.f3.k, hR.f4.k, hR.f5.k, hR.f6.k, (fun _ => rfl), (fun _ => rfl), hR.f9.k, hR.f10.k, hR.f11.k, hR.f12.k, hR.f13.k, hR.f14.k⟩⟩
        refine EachOf.cons [] rfl (by kernel_rfl) ?_ ?_
        · rintro L A W ⟨v, rfl, hR⟩ hi hw K hK
          have hk : L 15 = false := hR.w15.not hi rfl
          go_simp
          refine hK.out _ _ ?_
          exact ⟨(fun jz => if jz = 32 then .slice (some ⟨lg, lo, none⟩) (n) (lc) else v jz), rfl, ⟨(fun h => hR.st (upd_false h)), hR.s1.k, hR.w5.o, hR.w6.o, hR.w7.o, hR.w8.o, hR.w11.o, hR.w12.o, hR.w13.o, hR.w14.o, hR.w15.o, hR.f0.k, hR.f1.k, hR.f2.k, hR.f3.k, hR.f4.k, hR.f5.k, hR.f6.k, hR.f7.k, hR.f8.k, (fun _ => rfl), hR.f10.k, hR.f11.k, hR.f12.k, hR.f13.k, hR.f14.k⟩⟩
        refine EachOf.cons [] rfl (by kernel_rfl) ?_ ?_
        · rintro L A W ⟨v, rfl, hR⟩ hi hw K hK
          have hk : L 15 = false := hR.w15.not hi rfl
          go_simp
          refine hK.out _ _ ?_
          exact ⟨(fun jz => if jz = 33 then .int .i64 (d : Int) else v jz), rfl, ⟨(fun h => hR.st (upd_false h)), hR.s1.k, hR.w5.o, hR.w6.o, hR.w7.o, hR.w8.o, hR.w11.o, hR.w12.o, hR.w13.o, hR.w14.o, hR.w15.o, hR.f0.k, hR.f1.k, hR.f2.k, hR.f3.k, hR.f4.k, hR.f5.k, hR.f6.k, hR.f7.k, hR.f8.k, hR.f9.k, (fun _ => rfl), hR.f11.k, hR.f12.k, hR.f13.k, hR.f14.k⟩⟩
        refine EachOf.cons [9, 10] rfl (by kernel_rfl) ?_ ?_
        · rintro L A W ⟨v, rfl, hR⟩ hi hw K hK
          have hk : L 15 = false := hR.w15.not hi rfl
          have e9 := hR.f9 (hw 9 (by simp))
          have e10 := hR.f10 (hw 10 (by simp))
          simp only [e9, e10]
          clear e9 e10
          go_simp
          refine hK.out _ _ ?_
          exact ⟨(fun jz => if jz = 32 then .slice (some ⟨lg, lo, none⟩) (n) (lc) else if jz = 33 then .int .i64 (d : Int) else if jz = 34 then .pointer (some ⟨lg, lo + d, none⟩) else v jz), rfl, ⟨(fun h => hR.st (upd_false h)), hR.s1.k, hR.w5.o, hR.w6.o, hR.w7.o, hR.w8.o, (fun _ j hj => upd_on (hw j hj)), hR.w12.o, hR.w13.o, hR.w14.o, hR.w15.o, hR.f0.k, hR.f1.k, hR.f2.k, hR.f3.k, hR.f4.k, hR.f5.k, hR.f6.k, hR.f7.k, hR.f8.k, (fun _ => rfl), (fun _ => rfl), (fun _ => rfl), hR.f12.k, hR.f13.k, hR.f14.k⟩⟩
        refine EachOf.cons [11] rfl (by kernel_rfl) ?_ ?_
        · rintro L A W ⟨v, rfl, hR⟩ hi hw K hK
          have hk : L 15 = false := hR.w15.not hi rfl
          have e11 := hR.f11 (hw 11 (by simp))
          simp only [e11]
          clear e11
          have q0 := ((hR.st hk).cell (p := ⟨lg, lo + d, none⟩) LF.out.2).trans LF.out.1
          go_simp
          refine hK.out _ _ ?_
          exact ⟨(fun jz => if jz = 34 then .pointer (some ⟨lg, lo + d, none⟩) else if jz = 35 then .int .i64 y else v jz), rfl, ⟨(fun h => hR.st (upd_false h)), hR.s1.k, hR.w5.o, hR.w6.o, hR.w7.o, hR.w8.o, hR.w11.o, (fun _ j hj => upd_on (hw j hj)), hR.w13.o, hR.w14.o, hR.w15.o, hR.f0.k, hR.f1.k, hR.f2.k, hR.f3.k, hR.f4.k, hR.f5.k, hR.f6.k, hR.f7.k, hR.f8.k, hR.f9.k, hR.f10.k, (fun _ => rfl), (fun _ => rfl), hR.f13.k, hR.f14.k⟩⟩
        refine EachOf.cons [8, 12] rfl (by kernel_rfl) ?_ ?_
        · rintro L A W ⟨v, rfl, hR⟩ hi hw K hK
          have hk : L 15 = false := hR.w15.not hi rfl
          have e8 := hR.f8 (hw 8 (by simp))
          have e12 := hR.f12 (hw 12 (by simp))
          simp only [e8, e12]
          clear e8 e12
          go_simp
          refine hK.out _ _ ?_
          exact ⟨(fun jz => if jz = 31 then .int .i64 x else if jz = 35 then .int .i64 y else if jz = 36 then .int .i64 z else v jz), rfl, ⟨(fun h => hR.st (upd_false h)), hR.s1.k, hR.w5.o, hR.w6.o, hR.w7.o, hR.w8.o, hR.w11.o, hR.w12.o, (fun _ j hj => upd_on (hw j hj)), hR.w14.o, hR.w15.o, hR.f0.k, hR.f1.k, hR.f2.k, hR.f3.k, hR.f4.k, hR.f5.k, hR.f6.k, hR.f7.k, (fun _ => rfl), hR.f9.k, hR.f10.k, hR.f11.k, (fun _ => rfl), (fun _ => rfl), hR.f14.k⟩⟩
        refine EachOf.cons [0, 1] rfl (by kernel_rfl) ?_ ?_
        · rintro L A W ⟨v, rfl, hR⟩ hi hw K hK
          have hk : L 15 = false := hR.w15.not hi rfl
          have e0 := hR.f0 (hw 0 (by simp))
          have e1 := hR.f1 (hw 1 (by simp))
          simp only [e0, e1]
          clear e0 e1
          go_simp
          refine hK.out _ _ ?_
          exact ⟨(fun jz => if jz = 23 then .slice (some ⟨g, 0, none⟩) (M) (M) else if jz = 24 then .int .u64 (s : Int) else if jz = 37 then .pointer (some ⟨g, s, none⟩) else v jz), rfl, ⟨(fun h => hR.st (upd_false h)), hR.s1.k, hR.w5.o, hR.w6.o, hR.w7.o, hR.w8.o, hR.w11.o, hR.w12.o, hR.w13.o, (fun _ j hj => upd_on (hw j hj)), hR.w15.o, (fun _ => rfl), (fun _ => rfl), hR.f2.k, hR.f3.k, hR.f4.k, hR.f5.k, hR.f6.k, hR.f7.k, hR.f8.k, hR.f9.k, hR.f10.k, hR.f11.k, hR.f12.k, hR.f13.k, (fun _ => rfl)⟩⟩
        refine EachOf.cons [0, 1, 2, 3, 4, 5, 6, 7, 8, 9, 10, 11, 12, 13, 14] rfl (by kernel_rfl) ?_ ?_
        · rintro L A W ⟨v, rfl, hR⟩ hi hw K hK
          have e14 := hR.f14 (hw 14 (by simp))
          have e13 := hR.f13 (hw 13 (by simp))
          simp only [e14, e13]
          clear e14 e13
          have q1 := (hR.st hi).cell (p := ⟨g, s, none⟩) LO.out.2.2
          rw [LO.out.1] at q1
          have q2 := (hR.st hi).frozen (p := ⟨g, s, none⟩) LO.out.2.2
          rw [LO.out.2.1] at q2
          go_simp
          refine hK.out _ _ ?_
          exact ⟨(fun jz => if jz = 37 then .pointer (some ⟨g, s, none⟩) else if jz = 36 then .int .i64 z else v jz), rfl, ⟨(fun h => by simp [upd_self] at h), (fun _ => ⟨W, hR.st hi, rfl⟩), hR.w5.o, hR.w6.o, hR.w7.o, hR.w8.o, hR.w11.o, hR.w12.o, hR.w13.o, hR.w14.o, (fun _ j hj => upd_on (hw j hj)), hR.f0.k, hR.f1.k, hR.f2.k, hR.f3.k, hR.f4.k, hR.f5.k, hR.f6.k, hR.f7.k, hR.f8.k, hR.f9.k, hR.f10.k, hR.f11.k, hR.f12.k, (fun _ => rfl), (fun _ => rfl)⟩⟩
        exact EachOf.nil
      rintro L A W ⟨v, rfl, hR⟩ hL
      obtain ⟨W4, hb4, hW⟩ := hR.s1 (hL 15 (by simp))
      have T : Hid (NRow w.heap.size M W g M (cutS f n (s + 1)) ∧ Below w.heap.size w W) := by
        have T1 := (S.out.1.on hb4).set (f2 := cutS f n (s + 1)) s z hlt (by unfold cutS; rw [if_pos (by omega), HZ.out]) (fun l _ hne => by
          unfold cutS
          by_cases q : l < s
          · rw [if_pos q, if_pos (by omega)]
          · rw [if_neg q, if_neg (by omega)])
        rw [← hW] at T1
        refine ⟨T1, ?_⟩
        rw [hW]
        exact (below_on S.out.2 hb4).setCell S.out.1.lo _
      clear hW hb4 W4 hR hL LF LS LO S HZ CT
      go_wp2_with fail
      rw [← HEL.out]
      go_roundg (M - (s + 1))
      case measure => omega
      case rel => exact ⟨s + 1, rfl, rfl, by omega, by omega, T⟩
    · have e : s = M := by omega
      subst e
      have e2 : decide ((s : Int) ≤ ((s - 1 : Nat) : Int)) = false := decide_eq_false (by omega)
      go_wp2_with (go_at_call 22; (with_reducible refine ((CW _).out).mono ?_); rintro e w' ⟨rfl, rfl⟩)
      go_ret
      exact ⟨S.out.2, g, rfl, S.out.1.cong fun l hl => by unfold cutS; rw [if_pos hl]⟩
end Go.Proofs.YtjonhhmapbibaaaDoor
