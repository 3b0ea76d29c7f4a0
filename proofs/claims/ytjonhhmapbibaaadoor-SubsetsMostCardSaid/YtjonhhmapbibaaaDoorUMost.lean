/- Layer 7: mostParts: the greatest number of parts without a common index that have the sum 0. -/
import Derived.Test.YtjonhhmapbibaaaDoorUSrch
namespace Go.Proofs.YtjonhhmapbibaaaDoor
open Go.ChangeShapes Go.WideShapes Go.ChangeAt Go.RowKit Go.Joins Go.Deep Go.Shelf
set_option linter.unusedVariables false

def clrb (s k : Nat) : Nat := s &&& (18446744073709551615 - 2 ^ k)
theorem clrb_bit {s k : Nat} (hs : s < 18446744073709551616) (hk : k < 64) (i : Nat) : (clrb s k).testBit i = (s.testBit i && decide (i ≠ k)) := by
  unfold clrb
  rw [anb_bit (Nat.lt_of_lt_of_le (Nat.pow_lt_pow_right (by decide) hk) (by decide)) hs, Nat.testBit_two_pow]
  by_cases h : k = i
  · rw [decide_eq_true h, decide_eq_false (by omega)]; rfl
  · rw [decide_eq_false h, decide_eq_true (by omega)]; rfl
theorem clrb_lt {s k : Nat} (hs : s < 18446744073709551616) (hk : k < 64) (hb : s.testBit k = true) : clrb s k < s := by
  rcases Nat.lt_or_ge (clrb s k) s with h | h
  · exact h
  · have e : clrb s k = s := Nat.le_antisymm Nat.and_le_left h
    have := clrb_bit hs hk k
    rw [e, hb] at this
    simp at this
/-- The greatest value over the sets without one of the indices below k. -/
def mxB (g : Nat → Nat) (s : Nat) : Nat → Nat
  | 0 => 0
  | k + 1 => if s.testBit k = true then max (mxB g s k) (g (clrb s k)) else mxB g s k
theorem mxB_succ (g : Nat → Nat) (s k : Nat) : mxB g s (k + 1) = if s.testBit k = true then max (mxB g s k) (g (clrb s k)) else mxB g s k := rfl
theorem mxB_congr {g h : Nat → Nat} {s : Nat} : ∀ {k : Nat}, (∀ j, j < k → s.testBit j = true → g (clrb s j) = h (clrb s j)) → mxB g s k = mxB h s k
  | 0, _ => rfl
  | k + 1, e => by
    unfold mxB
    rw [mxB_congr fun j hj => e j (by omega)]
    by_cases hb : s.testBit k = true
    · rw [if_pos hb, if_pos hb, e k (by omega) hb]
    · rw [if_neg hb, if_neg hb]
theorem mxB_skip {g : Nat → Nat} {s k : Nat} : ∀ {t : Nat}, k ≤ t → (∀ i, k ≤ i → i < t → s.testBit i = false) → mxB g s t = mxB g s k
  | 0, h, _ => by rw [show k = 0 by omega]
  | t + 1, h, e => by
    by_cases q : k = t + 1
    · rw [q]
    · rw [mxB_succ, if_neg (by rw [e t (by omega) (by omega)]; decide)]
      exact mxB_skip (t := t) (by omega) fun i h1 h2 => e i h1 (by omega)
theorem mxB_le {g : Nat → Nat} {s B : Nat} : ∀ {k : Nat}, (∀ j, j < k → s.testBit j = true → g (clrb s j) ≤ B) → mxB g s k ≤ B
  | 0, _ => Nat.zero_le _
  | k + 1, e => by
    unfold mxB
    have := mxB_le (k := k) fun j hj => e j (by omega)
    by_cases hb : s.testBit k = true
    · rw [if_pos hb]; exact Nat.max_le.2 ⟨this, e k (by omega) hb⟩
    · rw [if_neg hb]; exact this
def mstF (n : Nat) (sm : Nat → Int) : Nat → Nat → Nat
  | 0, _ => 0
  | k + 1, s => if s = 0 then 0 else mxB (mstF n sm k) s n + if sm s = 0 then 1 else 0
/-- How many parts a set has at most. -/
def mst (n : Nat) (sm : Nat → Int) (s : Nat) : Nat := mstF n sm (s + 1) s
theorem mstF_eq (n : Nat) (sm : Nat → Int) (hn : n ≤ 64) : ∀ s, s < 18446744073709551616 → ∀ k, s < k → mstF n sm k s = mst n sm s := by
  intro s
  induction s using Nat.strongRecOn with
  | ind s ih =>
    intro hs k hk
    obtain ⟨k, rfl⟩ : ∃ m, k = m + 1 := ⟨k - 1, by omega⟩
    unfold mst mstF
    by_cases h0 : s = 0
    · rw [if_pos h0, if_pos h0]
    · rw [if_neg h0, if_neg h0]
      congr 1
      refine mxB_congr fun j hj hb => ?_
      have hl := clrb_lt hs (by omega) hb
      rw [ih _ hl (by omega) k (by omega), ih _ hl (by omega) s hl]
theorem mst_zero (n : Nat) (sm : Nat → Int) : mst n sm 0 = 0 := rfl
theorem mst_step {n s : Nat} {sm : Nat → Int} (hn : n ≤ 64) (hs : s < 18446744073709551616) (h0 : s ≠ 0) : mst n sm s = mxB (mst n sm) s n + if sm s = 0 then 1 else 0 := by
  conv => lhs; unfold mst mstF
  rw [if_neg h0]
  congr 1
  exact mxB_congr fun j hj hb => mstF_eq n sm hn _ (Nat.lt_trans (clrb_lt hs (by omega) hb) hs) s (clrb_lt hs (by omega) hb)
theorem mst_le {n : Nat} {sm : Nat → Int} (hn : n ≤ 64) : ∀ s, s < 18446744073709551616 → mst n sm s ≤ s := by
  intro s
  induction s using Nat.strongRecOn with
  | ind s ih =>
    intro hs
    by_cases h0 : s = 0
    · rw [h0, mst_zero]; exact Nat.le_refl _
    · rw [mst_step hn hs h0]
      have : mxB (mst n sm) s n ≤ s - 1 := mxB_le fun j hj hb => by
        have hl := clrb_lt hs (by omega) hb
        have := ih _ hl (by omega)
        omega
      split <;> omega

def cutM (n : Nat) (sm : Nat → Int) (k : Nat) : Nat → Int := fun j => if j < k then (mst n sm j : Int) else 0
def cutR (n : Nat) (sm : Nat → Int) (s k : Nat) : Nat → Int := fun j => if j < s then (mst n sm j : Int) else if j = s then (mxB (mst n sm) s k : Int) else 0

structure MstR (b M s c : Nat) (x y z : Int) (Wc : World) (L : Nat → Bool) (v : Nat → Value) (W : World) : Prop where
  st : L 12 = false → Below Wc.heap.size Wc W
  s1 : Had L 12 (∃ W2, Below Wc.heap.size Wc W2 ∧ W = W2.setCell ⟨b, s, none⟩ (.int .i64 z))
  w4 : Had L 4 (∀ j ∈ [2, 3], L j = true)
  w5 : Had L 5 (∀ j ∈ [4], L j = true)
  w8 : Had L 8 (∀ j ∈ [6, 7], L j = true)
  w9 : Had L 9 (∀ j ∈ [8], L j = true)
  w10 : Had L 10 (∀ j ∈ [5, 9], L j = true)
  w11 : Had L 11 (∀ j ∈ [0, 1], L j = true)
  w12 : Had L 12 (∀ j ∈ [0, 1, 2, 3, 4, 5, 6, 7, 8, 9, 10, 11], L j = true)
  f0 : Had L 0 (v 30 = .slice (some ⟨b, 0, none⟩) (M) (M))
  f1 : Had L 1 (v 31 = .int .u64 (s : Int))
  f2 : Had L 2 (v 32 = .slice (some ⟨b, 0, none⟩) (M) (M))
  f3 : Had L 3 (v 33 = .int .u64 (s : Int))
  f4 : Had L 4 (v 34 = .pointer (some ⟨b, s, none⟩))
  f5 : Had L 5 (v 35 = .int .i64 x)
  f6 : Had L 6 (v 36 = .slice (some ⟨b, 0, none⟩) (M) (M))
  f7 : Had L 7 (v 37 = .int .u64 (c : Int))
  f8 : Had L 8 (v 38 = .pointer (some ⟨b, c, none⟩))
  f9 : Had L 9 (v 39 = .int .i64 y)
  f10 : Had L 10 (v 40 = .int .i64 z)
  f11 : Had L 11 (v 41 = .pointer (some ⟨b, s, none⟩))
set_option maxRecDepth 100000 in
set_option maxHeartbeats 16000000 in
theorem mostParts_any (n lo g cp : Nat) (F : Nat → Int) (w : World) (hr : NRow lo (2 ^ n) w g cp F) (hn : n ≤ 11) :
    Calls Tryd.prog 23 #[.slice (some ⟨g, 0, none⟩) (2 ^ n) cp] w fun e w' => Below w.heap.size w w' ∧ ∃ b, e = .returned (.slice (some ⟨b, 0, none⟩) (2 ^ n) (2 ^ n)) ∧ NRow w.heap.size (2 ^ n) w' b (2 ^ n) (fun s => (mst n F s : Int)) := by
  have hN : 2 ^ n ≤ 2048 := Nat.le_trans (Nat.pow_le_pow_right (by decide) hn) (by decide)
  have h0 := Nat.two_pow_pos n
  have HT := Lib.hid (fun s (h0 : 0 < s) (h : s < 2 ^ n) => low_tz h0 h (by omega : n ≤ 64))
  generalize hM : 2 ^ n = M at *
  have HR := Lib.hid hr
  have k0 : IntKind.u64.wrap (M : Int) = (M : Int) := IntWalk.u64_in _ (by omega)
  obtain ⟨i0, hi0, hz0, hz1, hz2⟩ := info_parts (show (Tryd.prog.info? 3).map (fun i => (i.zero, i.size, i.bytes)) = some (some (Value.int IntKind.i64 0), 1, 8) by kernel_rfl)
  have HMM := Lib.hid hM
  clear hr hM
  go_enter Tryd.func23, Tryd.ntmps23
  go_upto_region 2 with (refine wpList_make_full _ rfl _ _ 22 rfl w.heap.size 3 i0 (.int .i64 0) 1 Tryd.underlying22 hi0 hz0 hz1 _ _ _ _ M rfl rfl rfl rfl (by rw [hz2]; omega) (by unfold maxLen; omega) (Nat.le_refl _) ?_; intro w6 ho hg)
  have hb6 : Below w.heap.size w w6 := ⟨hg.os, hg.tape, hg.output, hg.size, fun k hk => hg.block k hk (by simp)⟩
  obtain ⟨b, hsb⟩ : ∃ x, x = w.heap.size := ⟨_, rfl⟩
  have N0 := NRow.made (lo := w.heap.size) ho (Nat.le_refl _)
  rw [← hsb]
  have HBG := Lib.hid hsb
  have S0 : Hid (NRow w.heap.size M w6 b M (cutM n F 1) ∧ Below w.heap.size w w6) := ⟨by
    rw [← hsb] at N0
    rw [← hsb]
    refine N0.cong fun l _ => ?_
    unfold cutM
    split
    · rename_i h
      have : l = 0 := by omega
      subst this
      rw [mst_zero]; rfl
    · rfl, hb6⟩
  clear ho hg hb6 N0 hsb hi0 hz0 hz1 hz2 i0
  go_wp2_with fail
  go_loopg [4] (M - 1) (fun g' s4 wx => ∃ s : Nat, s4 = .int .u64 s ∧ g' = M - s ∧ 1 ≤ s ∧ s ≤ M ∧ Hid (NRow w.heap.size M wx b M (cutM n F s) ∧ Below w.heap.size w wx))
  case atStart => exact ⟨1, rfl, rfl, Nat.le_refl _, h0, S0⟩
  case round =>
    clear S0
    obtain ⟨s, rfl, rfl, hs1, hs, S⟩ := hrel
    rename World => W1
    by_cases hlt : s < M
    · have k2 : IntKind.u64.wrap ((s : Int) + 1) = ((s + 1 : Nat) : Int) := by rw [IntWalk.u64_in _ (by omega)]; omega
      have S1 : Hid (NRow w.heap.size M W1 b M (cutR n F s 0) ∧ Below w.heap.size w W1 ∧ (∀ i, s.testBit i = (decide (0 ≤ i) && s.testBit i))) := ⟨S.out.1.cong fun l hl => by
        unfold cutR cutM mxB
        split
        · rfl
        · split <;> rfl, S.out.2, fun i => by simp⟩
      clear S
      go_upto_region 6 with fail
      go_loopg [5] (2 * s) (fun g' s5 wx => ∃ r k : Nat, s5 = .int .u64 r ∧ g' = 2 * r ∧ r ≤ s ∧ k ≤ n ∧ Hid (NRow w.heap.size M wx b M (cutR n F s k) ∧ Below w.heap.size w wx ∧ (∀ i, r.testBit i = (decide (k ≤ i) && s.testBit i))))
      case atStart => exact ⟨s, 0, rfl, rfl, Nat.le_refl _, Nat.zero_le _, S1⟩
      case round =>
        clear S1
        obtain ⟨r, k, rfl, rfl, hrs, hk, S⟩ := hrel
        rename World => W2
        by_cases hr0 : r = 0
        · subst hr0
          have TT : Hid (NRow w.heap.size M W2 b M (cutR n F s n) ∧ Below w.heap.size w W2) := ⟨S.out.1.cong fun l hl => by
            unfold cutR
            split
            · rfl
            · split
              · rw [mxB_skip (k := k) (t := n) hk fun i h1 h2 => by
                  have := S.out.2.2 i
                  rw [Nat.zero_testBit, decide_eq_true h1, Bool.true_and] at this
                  exact this.symm]
              · rfl, S.out.2.1⟩
          clear S
          have HST := Lib.hid (mst_step (n := n) (sm := F) (s := s) (by omega) (by omega) (by omega))
          have p1 : W2.cell? ⟨g, s, none⟩ = some (.int .i64 (F s)) := (HR.out.on TT.out.2).cell s hlt
          obtain ⟨x, hx⟩ : ∃ x, F s = x := ⟨_, rfl⟩
          rw [hx] at p1 HST
          have p2 : W2.cell? ⟨b, s, none⟩ = some (.int .i64 (mxB (mst n F) s n : Int)) := by
            rw [TT.out.1.cell s hlt]; unfold cutR; rw [if_neg (Nat.lt_irrefl _), if_pos rfl]
          have p3 := TT.out.1.fz s hlt
          have HLE := mst_le (n := n) (sm := F) (by omega) s (by omega)
          by_cases hx0 : x = 0
          · have q1 : (x == 0) = true := by simpa using hx0
            rw [HST.out, if_pos hx0] at HLE
            have HST2 : Hid (mst n F s = mxB (mst n F) s n + 1) := by show _ = _; rw [HST.out, if_pos hx0]
            generalize mxB (mst n F) s n = y at *
            have k5 : IntKind.i64.wrap ((y : Int) + 1) = ((y + 1 : Nat) : Int) := by rw [IntWalk.i64_in _ (by omega)]; omega
            have T : Hid (NRow w.heap.size M (W2.setCell ⟨b, s, none⟩ (.int .i64 ((y + 1 : Nat) : Int))) b M (cutM n F (s + 1)) ∧ Below w.heap.size w (W2.setCell ⟨b, s, none⟩ (.int .i64 ((y + 1 : Nat) : Int)))) :=
              ⟨TT.out.1.set (f2 := cutM n F (s + 1)) s _ hlt (by unfold cutM; rw [if_pos (by omega), HST2.out]) (fun l _ hne => by
                unfold cutM cutR
                by_cases q : l < s
                · rw [if_pos q, if_pos (by omega)]
                · rw [if_neg q, if_neg (by omega), if_neg hne]), TT.out.2.setCell TT.out.1.lo _⟩
            clear TT HST HST2 hx0 HLE hx
            go_wp2_with fail
            go_roundg (M - (s + 1))
            case measure => omega
            case rel => exact ⟨s + 1, rfl, rfl, by omega, by omega, T⟩
          · have q1 : (x == 0) = false := by simpa using hx0
            have T : Hid (NRow w.heap.size M W2 b M (cutM n F (s + 1)) ∧ Below w.heap.size w W2) := ⟨TT.out.1.cong fun l hl => by
              unfold cutM cutR
              by_cases q : l < s
              · rw [if_pos q, if_pos (by omega)]
              · by_cases q2 : l = s
                · rw [if_neg q, if_pos q2, if_pos (by omega), q2, HST.out, if_neg hx0]; rfl
                · rw [if_neg q, if_neg q2, if_neg (by omega)], TT.out.2⟩
            clear TT HST hx0 HLE hx p2 p3
            go_wp2_with fail
            go_roundg (M - (s + 1))
            case measure => omega
            case rel => exact ⟨s + 1, rfl, rfl, by omega, by omega, T⟩
        · have hr1 : (r != 0) = true := by simpa using hr0
          have hr2 : ((r : Int) != 0) = true := by simp; omega
          obtain ⟨t, ht⟩ := HT.out r (by omega) (by omega)
          have hlow := ht.low
          have htn := ht.lt
          obtain ⟨P, hP⟩ : ∃ P, P = 2 ^ t := ⟨_, rfl⟩
          rw [← hP] at hlow
          have hPM : P < 18446744073709551616 := by rw [hP]; exact Nat.lt_of_lt_of_le (Nat.pow_lt_pow_right (by decide) (show t < 64 by omega)) (by decide)
          obtain ⟨nr, hnr⟩ : ∃ x, x = 18446744073709551616 - r := ⟨_, rfl⟩
          have kn : IntKind.u64.wrap (-(r : Int)) = (nr : Int) := by rw [IntKind.wrap_u64, hnr]; omega
          have ka : bits .and .u64 (r : Int) (nr : Int) = (P : Int) := by rw [bits_and_u64_nat _ _ (by omega) (by omega), hnr, hlow]
          obtain ⟨c, hc⟩ : ∃ c, c = clrb s t := ⟨_, rfl⟩
          have kb : bits .andNot .u64 (s : Int) (P : Int) = (c : Int) := by rw [u64_andNot_nat _ _ (by omega) hPM, hc, hP]; rfl
          obtain ⟨r2, hr2d⟩ : ∃ x, x = r &&& (r - 1) := ⟨_, rfl⟩
          have kr : r2 < r := by rw [hr2d]; exact and_le_pred (by omega)
          have kc : bits .and .u64 (r : Int) ((r - 1 : Nat) : Int) = (r2 : Int) := by rw [bits_and_u64_nat _ _ (by omega) (by omega), ← hr2d]
          have k1 : IntKind.u64.wrap ((r : Int) - 1) = ((r - 1 : Nat) : Int) := by rw [IntWalk.u64_in _ (by omega)]; omega
          have hkt : k ≤ t := by
            have := S.out.2.2 t
            rw [ht.on] at this
            simp at this
            exact this.1
          have hst : s.testBit t = true := by
            have := S.out.2.2 t
            rw [ht.on] at this
            simp at this
            exact this.2
          have hcs : c < s := by rw [hc]; exact clrb_lt (by omega) (by omega) hst
          have hmx : mxB (mst n F) s (t + 1) = max (mxB (mst n F) s k) (mst n F c) := by
            show (if s.testBit t = true then _ else _) = _
            rw [if_pos hst, ← hc, mxB_skip (k := k) (t := t) hkt fun i h1 h2 => by
              have := S.out.2.2 i
              rw [ht.off i h2, decide_eq_true h1, Bool.true_and] at this
              exact this.symm]
          obtain ⟨x, hx⟩ : ∃ x : Int, x = (mxB (mst n F) s k : Nat) := ⟨_, rfl⟩
          obtain ⟨y, hy⟩ : ∃ y : Int, y = (mst n F c : Nat) := ⟨_, rfl⟩
          obtain ⟨z, hz⟩ : ∃ z : Int, z = (mxB (mst n F) s (t + 1) : Nat) := ⟨_, rfl⟩
          have hmax : max x y = z := by rw [hx, hy, hz, hmx]; omega
          have LS : Hid (W2.cell? ⟨b, s, none⟩ = some (.int .i64 x) ∧ b < W2.heap.size) := ⟨by rw [S.out.1.cell s hlt, hx]; unfold cutR; rw [if_neg (Nat.lt_irrefl _), if_pos rfl], S.out.1.hb⟩
          have LC : Hid (W2.cell? ⟨b, c, none⟩ = some (.int .i64 y) ∧ b < W2.heap.size) := ⟨by rw [S.out.1.cell c (by omega), hy]; unfold cutR; rw [if_pos hcs], S.out.1.hb⟩
          have LO : Hid (W2.frozen? ⟨b, s, none⟩ = false) := S.out.1.fz s hlt
          have HZ := Lib.hid hz
          have HB2 : Hid (∀ i, r2.testBit i = (decide (t + 1 ≤ i) && s.testBit i)) := fun i => by
            rw [hr2d, ht.cut i, S.out.2.2 i]
            rcases Nat.lt_trichotomy i t with q | q | q
            · have := S.out.2.2 i
              rw [ht.off i q] at this
              rw [← this, decide_eq_false (show ¬ t + 1 ≤ i by omega)]; rfl
            · subst q; rw [decide_eq_false (show ¬ i + 1 ≤ i by omega)]; simp
            · rw [decide_eq_true (show k ≤ i by omega), decide_eq_true (show t + 1 ≤ i by omega), decide_eq_true (show i ≠ t by omega)]; simp
          have hcM : c < M := by omega
          clear hx hy hz hmx hr2d hc hP hnr hlow ht hst hkt hPM
          go_upto_region 9 with fail
          refine wp_region_each (fun L A W => ∃ (v : Nat → Value), A = ⟨#[_, _, _, _, _, _, _, _, _, _, _, _, _, _, _, _, _, _, _, _, _, _, _, _, _, _, _, _, _, _, v 30, v 31, v 32, v 33, v 34, v 35, v 36, v 37, v 38, v 39, v 40, v 41, _, _, _, _, _, _, _, _, _, _, _, _], []⟩ ∧ MstR b M s c x y z W2 L v W) (by kernel_rfl) (by kernel_rfl) ⟨fun jz => if jz = 30 then u30 else if jz = 31 then u31 else if jz = 32 then u32 else if jz = 33 then u33 else if jz = 34 then u34 else if jz = 35 then u35 else if jz = 36 then u36 else if jz = 37 then u37 else if jz = 38 then u38 else if jz = 39 then u39 else if jz = 40 then u40 else if jz = 41 then u41 else undef, rfl, ⟨(fun _ => Below.drew (Below.refl _ _)), Had.none, Had.none, Had.none, Had.none, Had.none, Had.none, Had.none, Had.none, Had.none, Had.none, Had.none, Had.none, Had.none, Had.none, Had.none, Had.none, Had.none, Had.none, Had.none, Had.none⟩⟩ (rs := [0, 1, 2, 3, 4, 5, 6, 7, 8, 9, 10, 11, 12]) (by kernel_rfl) ?_ ?_
          · refine EachOf.cons [] rfl (by kernel_rfl) ?_ ?_
            · rintro L A W ⟨v, rfl, hR⟩ hi hw K hK
              have hk : L 12 = false := hR.w12.not hi rfl
              go_simp
              refine hK.out _ _ ?_
              exact ⟨(fun jz => if jz = 30 then .slice (some ⟨b, 0, none⟩) (M) (M) else v jz), rfl, ⟨(fun h => hR.st (upd_false h)), hR.s1.k, hR.w4.o, hR.w5.o, hR.w8.o, hR.w9.o, hR.w10.o, hR.w11.o, hR.w12.o, (fun _ => rfl), hR.f1.k, hR.f2.k, hR.f3.k, hR.f4.k, hR.f5.k, hR.f6.k, hR.f7.k, hR.f8.k, hR.f9.k, hR.f10.k, hR.f11.k⟩⟩
            refine EachOf.cons [] rfl (by kernel_rfl) ?_ ?_
            · rintro L A W ⟨v, rfl, hR⟩ hi hw K hK
              have hk : L 12 = false := hR.w12.not hi rfl
              go_simp
              refine hK.out _ _ ?_
              exact ⟨(fun jz => if jz = 31 then .int .u64 (s : Int) else v jz), rfl, ⟨(fun h => hR.st (upd_false h)), hR.s1.k, hR.w4.o, hR.w5.o, hR.w8.o, hR.w9.o, hR.w10.o, hR.w11.o, hR.w12.o, hR.f0.k, (fun _ => rfl), hR.f2.k, hR.f3.k, hR.f4.k, hR.f5.k, hR.f6.k, hR.f7.k, hR.f8.k, hR.f9.k, hR.f10.k, hR.f11.k⟩⟩
            refine EachOf.cons [] rfl (by kernel_rfl) ?_ ?_
            · rintro L A W ⟨v, rfl, hR⟩ hi hw K hK
              have hk : L 12 = false := hR.w12.not hi rfl
              go_simp
              refine hK.out _ _ ?_
              exact ⟨(fun jz => if jz = 32 then .slice (some ⟨b, 0, none⟩) (M) (M) else v jz), rfl, ⟨(fun h => hR.st (upd_false h)), hR.s1.k, hR.w4.o, hR.w5.o, hR.w8.o, hR.w9.o, hR.w10.o, hR.w11.o, hR.w12.o, hR.f0.k, hR.f1.k, (fun _ => rfl), hR.f3.k, hR.f4.k, hR.f5.k, hR.f6.k, hR.f7.k, hR.f8.k, hR.f9.k, hR.f10.k, hR.f11.k⟩⟩
            refine EachOf.cons [] rfl (by kernel_rfl) ?_ ?_
            · rintro L A W ⟨v, rfl, hR⟩ hi hw K hK
              have hk : L 12 = false := hR.w12.not hi rfl
              go_simp
              refine hK.out _ _ ?_
              exact ⟨(fun jz => if jz = 33 then .int .u64 (s : Int) else v jz), rfl, ⟨(fun h => hR.st (upd_false h)), hR.s1.k, hR.w4.o, hR.w5.o, hR.w8.o, hR.w9.o, hR.w10.o, hR.w11.o, hR.w12.o, hR.f0.k, hR.f1.k, hR.f2.k, (fun _ => rfl), hR.f4.k, hR.f5.k, hR.f6.k, hR.f7.k, hR.f8.k, hR.f9.k, hR.f10.k, hR.f11.k⟩⟩
            refine EachOf.cons [2, 3] rfl (by kernel_rfl) ?_ ?_
            · rintro L A W ⟨v, rfl, hR⟩ hi hw K hK
              have hk : L 12 = false := hR.w12.not hi rfl
              have e2 := hR.f2 (hw 2 (by simp))
              have e3 := hR.f3 (hw 3 (by simp))
              simp only [e2, e3]
              clear e2 e3
              go_simp
              refine hK.out _ _ ?_
              exact ⟨(fun jz => if jz = 32 then .slice (some ⟨b, 0, none⟩) (M) (M) else if jz = 33 then .int .u64 (s : Int) else if jz = 34 then .pointer (some ⟨b, s, none⟩) else v jz), rfl, ⟨(fun h => hR.st (upd_false h)), hR.s1.k, (fun _ j hj => upd_on (hw j hj)), hR.w5.o, hR.w8.o, hR.w9.o, hR.w10.o, hR.w11.o, hR.w12.o, hR.f0.k, hR.f1.k, (fun _ => rfl), (fun _ => rfl), (fun _ => rfl), hR.f5.k, hR.f6.k, hR.f7.k, hR.f8.k, hR.f9.k, hR.f10.k, hR.f11.k⟩⟩
            refine EachOf.cons [4] rfl (by kernel_rfl) ?_ ?_
            · rintro L A W ⟨v, rfl, hR⟩ hi hw K hK
              have hk : L 12 = false := hR.w12.not hi rfl
              have e4 := hR.f4 (hw 4 (by simp))
              simp only [e4]
              clear e4
              have q0 := ((hR.st hk).cell (p := ⟨b, s, none⟩) LS.out.2).trans LS.out.1
              go_simp
              refine hK.out _ _ ?_
              exact ⟨(fun jz => if jz = 34 then .pointer (some ⟨b, s, none⟩) else if jz = 35 then .int .i64 x else v jz), rfl, ⟨(fun h => hR.st (upd_false h)), hR.s1.k, hR.w4.o, (fun _ j hj => upd_on (hw j hj)), hR.w8.o, hR.w9.o, hR.w10.o, hR.w11.o, hR.w12.o, hR.f0.k, hR.f1.k, hR.f2.k, hR.f3.k, (fun _ => rfl), (fun _ => rfl), hR.f6.k, hR.f7.k, hR.f8.k, hR.f9.k, hR.f10.k, hR.f11.k⟩⟩
            refine EachOf.cons [] rfl (by kernel_rfl) ?_ ?_
            · rintro L A W ⟨v, rfl, hR⟩ hi hw K hK
              have hk : L 12 = false := hR.w12.not hi rfl
              go_simp
              refine hK.out _ _ ?_
              exact ⟨(fun jz => if jz = 36 then .slice (some ⟨b, 0, none⟩) (M) (M) else v jz), rfl, ⟨(fun h => hR.st (upd_false h)), hR.s1.k, hR.w4.o, hR.w5.o, hR.w8.o, hR.w9.o, hR.w10.o, hR.w11.o, hR.w12.o, hR.f0.k, hR.f1.k, hR.f2.k, hR.f3.k, hR.f4.k, hR.f5.k, (fun _ => rfl), hR.f7.k, hR.f8.k, hR.f9.k, hR.f10.k, hR.f11.k⟩⟩
            refine EachOf.cons [] rfl (by kernel_rfl) ?_ ?_
            · rintro L A W ⟨v, rfl, hR⟩ hi hw K hK
              have hk : L 12 = false := hR.w12.not hi rfl
              go_simp
              refine hK.out _ _ ?_
              exact ⟨(fun jz => if jz = 37 then .int .u64 (c : Int) else v jz), rfl, ⟨(fun h => hR.st (upd_false h)), hR.s1.k, hR.w4.o, hR.w5.o, hR.w8.o, hR.w9.o, hR.w10.o, hR.w11.o, hR.w12.o, hR.f0.k, hR.f1.k, hR.f2.k, hR.f3.k, hR.f4.k, hR.f5.k, hR.f6.k, (fun _ => rfl), hR.f8.k, hR.f9.k, hR.f10.k, hR.f11.k⟩⟩
            refine EachOf.cons [6, 7] rfl (by kernel_rfl) ?_ ?_
            · rintro L A W ⟨v, rfl, hR⟩ hi hw K hK
              have hk : L 12 = false := hR.w12.not hi rfl
              have e6 := hR.f6 (hw 6 (by simp))
              have e7 := hR.f7 (hw 7 (by simp))
              simp only [e6, e7]
              clear e6 e7
              go_simp
              refine hK.out _ _ ?_
              exact ⟨(fun jz => if jz = 36 then .slice (some ⟨b, 0, none⟩) (M) (M) else if jz = 37 then .int .u64 (c : Int) else if jz = 38 then .pointer (some ⟨b, c, none⟩) else v jz), rfl, ⟨(fun h => hR.st (upd_false h)), hR.s1.k, hR.w4.o, hR.w5.o, (fun _ j hj => upd_on (hw j hj)), hR.w9.o, hR.w10.o, hR.w11.o, hR.w12.o, hR.f0.k, hR.f1.k, hR.f2.k, hR.f3.k, hR.f4.k, hR.f5.k, (fun _ => rfl), (fun _ => rfl), (fun _ => rfl), hR.f9.k, hR.f10.k, hR.f11.k⟩⟩
            refine EachOf.cons [8] rfl (by kernel_rfl) ?_ ?_
            · rintro L A W ⟨v, rfl, hR⟩ hi hw K hK
              have hk : L 12 = false := hR.w12.not hi rfl
              have e8 := hR.f8 (hw 8 (by simp))
              simp only [e8]
              clear e8
              have q0 := ((hR.st hk).cell (p := ⟨b, c, none⟩) LC.out.2).trans LC.out.1
              go_simp
              refine hK.out _ _ ?_
              exact ⟨(fun jz => if jz = 38 then .pointer (some ⟨b, c, none⟩) else if jz = 39 then .int .i64 y else v jz), rfl, ⟨(fun h => hR.st (upd_false h)), hR.s1.k, hR.w4.o, hR.w5.o, hR.w8.o, (fun _ j hj => upd_on (hw j hj)), hR.w10.o, hR.w11.o, hR.w12.o, hR.f0.k, hR.f1.k, hR.f2.k, hR.f3.k, hR.f4.k, hR.f5.k, hR.f6.k, hR.f7.k, (fun _ => rfl), (fun _ => rfl), hR.f10.k, hR.f11.k⟩⟩
            refine EachOf.cons [5, 9] rfl (by kernel_rfl) ?_ ?_
            · rintro L A W ⟨v, rfl, hR⟩ hi hw K hK
              have hk : L 12 = false := hR.w12.not hi rfl
              have e5 := hR.f5 (hw 5 (by simp))
              have e9 := hR.f9 (hw 9 (by simp))
              simp only [e5, e9]
              clear e5 e9
              go_simp
              refine hK.out _ _ ?_
              exact ⟨(fun jz => if jz = 35 then .int .i64 x else if jz = 39 then .int .i64 y else if jz = 40 then .int .i64 z else v jz), rfl, ⟨(fun h => hR.st (upd_false h)), hR.s1.k, hR.w4.o, hR.w5.o, hR.w8.o, hR.w9.o, (fun _ j hj => upd_on (hw j hj)), hR.w11.o, hR.w12.o, hR.f0.k, hR.f1.k, hR.f2.k, hR.f3.k, hR.f4.k, (fun _ => rfl), hR.f6.k, hR.f7.k, hR.f8.k, (fun _ => rfl), (fun _ => rfl), hR.f11.k⟩⟩
            refine EachOf.cons [0, 1] rfl (by kernel_rfl) ?_ ?_
            · rintro L A W ⟨v, rfl, hR⟩ hi hw K hK
              have hk : L 12 = false := hR.w12.not hi rfl
              have e0 := hR.f0 (hw 0 (by simp))
              have e1 := hR.f1 (hw 1 (by simp))
              simp only [e0, e1]
              clear e0 e1
              go_simp
              refine hK.out _ _ ?_
              exact ⟨(fun jz => if jz = 30 then .slice (some ⟨b, 0, none⟩) (M) (M) else if jz = 31 then .int .u64 (s : Int) else if jz = 41 then .pointer (some ⟨b, s, none⟩) else v jz), rfl, ⟨(fun h => hR.st (upd_false h)), hR.s1.k, hR.w4.o, hR.w5.o, hR.w8.o, hR.w9.o, hR.w10.o, (fun _ j hj => upd_on (hw j hj)), hR.w12.o, (fun _ => rfl), (fun _ => rfl), hR.f2.k, hR.f3.k, hR.f4.k, hR.f5.k, hR.f6.k, hR.f7.k, hR.f8.k, hR.f9.k, hR.f10.k, (fun _ => rfl)⟩⟩
            refine EachOf.cons [0, 1, 2, 3, 4, 5, 6, 7, 8, 9, 10, 11] rfl (by kernel_rfl) ?_ ?_
            · rintro L A W ⟨v, rfl, hR⟩ hi hw K hK
              have e11 := hR.f11 (hw 11 (by simp))
              have e10 := hR.f10 (hw 10 (by simp))
              simp only [e11, e10]
              clear e11 e10
              have q1 := (hR.st hi).cell (p := ⟨b, s, none⟩) LS.out.2
              rw [LS.out.1] at q1
              have q2 := (hR.st hi).frozen (p := ⟨b, s, none⟩) LS.out.2
              rw [LO.out] at q2
              go_simp
              refine hK.out _ _ ?_
              exact ⟨(fun jz => if jz = 41 then .pointer (some ⟨b, s, none⟩) else if jz = 40 then .int .i64 z else v jz), rfl, ⟨(fun h => by simp [upd_self] at h), (fun _ => ⟨W, hR.st hi, rfl⟩), hR.w4.o, hR.w5.o, hR.w8.o, hR.w9.o, hR.w10.o, hR.w11.o, (fun _ j hj => upd_on (hw j hj)), hR.f0.k, hR.f1.k, hR.f2.k, hR.f3.k, hR.f4.k, hR.f5.k, hR.f6.k, hR.f7.k, hR.f8.k, hR.f9.k, (fun _ => rfl), (fun _ => rfl)⟩⟩
            exact EachOf.nil
          rintro L A W ⟨v, rfl, hR⟩ hL
          obtain ⟨W4, hb4, hW⟩ := hR.s1 (hL 12 (by simp))
          have T : Hid (NRow w.heap.size M W b M (cutR n F s (t + 1)) ∧ Below w.heap.size w W ∧ (∀ i, r2.testBit i = (decide (t + 1 ≤ i) && s.testBit i))) := by
            have T1 := (S.out.1.on hb4).set (f2 := cutR n F s (t + 1)) s z hlt (by unfold cutR; rw [if_neg (Nat.lt_irrefl _), if_pos rfl, HZ.out]) (fun l _ hne => by
              unfold cutR
              by_cases q : l < s
              · rw [if_pos q, if_pos q]
              · rw [if_neg q, if_neg q, if_neg hne, if_neg hne])
            rw [← hW] at T1
            refine ⟨T1, ?_, HB2.out⟩
            rw [hW]
            exact (below_on S.out.2.1 hb4).setCell S.out.1.lo _
          clear hW hb4 W4 hR hL LS LC LO S HZ HB2 hmax
          go_wp2_with fail
          go_roundg (2 * r2)
          case measure => omega
          case rel => exact ⟨r2, t + 1, rfl, rfl, by omega, by omega, T⟩
    · have e : s = M := by omega
      subst e
      go_wp2_with fail
      go_ret
      exact ⟨S.out.2, b, rfl, S.out.1.cong fun l hl => by unfold cutM; rw [if_pos hl]⟩
end Go.Proofs.YtjonhhmapbibaaaDoor
