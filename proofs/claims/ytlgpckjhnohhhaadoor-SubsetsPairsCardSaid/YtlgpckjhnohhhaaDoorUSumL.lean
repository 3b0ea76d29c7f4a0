/- Layer 7: the law SubsetsSums, walked; the reference's Nearest. -/
import Derived.Test.YtlgpckjhnohhhaaDoorUAwa
import Derived.Test.YtlgpckjhnohhhaaDoorURFst
import Derived.Test.YtlgpckjhnohhhaaDoorURSum
namespace Go.Proofs.YtlgpckjhnohhhaaDoor
open Go.ChangeShapes Go.WideShapes Go.ChangeAt Go.RowKit Go.Joins Go.Deep Go.Shelf
set_option linter.unusedVariables false

theorem far_any (a b : Int) (w : World) (a0 : -2305843009213693952 ≤ a) (a1 : a ≤ 2305843009213693952) (b0 : -2305843009213693952 ≤ b) (b1 : b ≤ 2305843009213693952) :
    Calls Tryd.prog 49 #[.int .i64 a, .int .i64 b] w fun e w' => e = .returned (.int .i64 (dis a b)) ∧ w = w' := by
  have k1 : IntKind.i64.wrap (a - b) = a - b := IntWalk.i64_in _ (by omega)
  have k2 : IntKind.i64.wrap (b - a) = b - a := IntWalk.i64_in _ (by omega)
  by_cases h : a < b
  · have q : decide (a < b) = true := decide_eq_true h
    have e : dis a b = b - a := by unfold dis; omega
    rw [e]
    clear a0 a1 b0 b1
    go_enter Tryd.func49, Tryd.ntmps49
    go_wp2_with fail
    go_ret
    exact ⟨rfl, rfl⟩
  · have q : decide (a < b) = false := decide_eq_false h
    have e : dis a b = a - b := by unfold dis; omega
    rw [e]
    clear a0 a1 b0 b1
    go_enter Tryd.func49, Tryd.ntmps49
    go_wp2_with fail
    go_ret
    exact ⟨rfl, rfl⟩
theorem own_z {W : World} {b : Nat} {pa : Option Addr} {pc : Nat} {zs : List Int} (h : W.ownsRow b 3 1 (.slice pa zs.length pc) zs.length (zrow zs)) : ZRow W pa zs := fun hn => by
  rcases h.2 with ⟨_, h0⟩ | ⟨g, cap, cur, hv, hb, hg, hc, _⟩
  · omega
  · injection hv with e1 e2 e3
    subst e1
    refine ⟨g, 0, rfl, (Array.getElem?_eq_some_iff.1 hg).1, fun j hj => ?_⟩
    have := h.cells (g := g) (by rfl) j (.int .i64 (nth zs j)) (by
      unfold zrow nth
      rw [List.getElem?_map, List.getElem?_eq_getElem hj, List.getD_eq_getElem?_getD, List.getElem?_eq_getElem hj]; rfl)
    rwa [show (⟨g, 0, none⟩ : Addr).add j = ⟨g, 0 + j, none⟩ by unfold Addr.add; split <;> simp_all] at this
theorem nth_get (zs : List Int) (j : Nat) (hj : j < zs.length) : nth zs j = zs[j] := by
  unfold nth
  rw [List.getD_eq_getElem?_getD, List.getElem?_eq_getElem hj]; rfl
theorem allS_len (f : Nat → Int) (n : Nat) : (allS f n).length ≤ 2 ^ n := by
  unfold allS
  refine Nat.le_trans (Lib.compact_length_le _) ?_
  rw [mySort_len, List.length_map, List.length_range]; exact Nat.le_refl _
theorem allS_pos (f : Nat → Int) (n : Nat) : 0 < (allS f n).length := List.length_pos_of_mem ((allS_mem f n _).2 ⟨fun _ => false, rfl⟩)
theorem allS_bd {f : Nat → Int} {n : Nat} (hn : n ≤ 11) (hf : ∀ i, i < n → -1125899906842624 ≤ f i ∧ f i ≤ 1125899906842624) (j : Nat) (hj : j < (allS f n).length) : -2305843009213693952 ≤ nth (allS f n) j ∧ nth (allS f n) j ≤ 2305843009213693952 := by
  obtain ⟨p, e⟩ := (allS_mem f n (nth (allS f n) j)).1 (by rw [nth_get _ _ hj]; exact List.getElem_mem hj)
  have := smS_bd (p := p) (f := f) (B := 1125899906842624) (by decide) hf
  omega
theorem NrM.asc {zs : List Int} {i : Nat} {sm m : Int} (ha : Asc zs) (hi : i < zs.length) (h : NrM (nth zs) i sm m) : (dis (nth zs i) sm < dis m sm → NrM (nth zs) (i + 1) sm (nth zs i)) ∧ (¬ dis (nth zs i) sm < dis m sm → NrM (nth zs) (i + 1) sm m) := by
  obtain ⟨⟨k, hk, he⟩, h2⟩ := h
  have hlt : ∀ j, j < i → nth zs j < nth zs i := fun j hj => by
    rw [nth_get _ _ hi, nth_get _ _ (by omega)]
    exact (List.pairwise_iff_getElem.1 ha) j i (by omega) hi hj
  constructor
  · intro hc
    refine ⟨⟨i, by omega, rfl⟩, fun j hj => ?_⟩
    by_cases q : j = i
    · rw [q]; exact .inr ⟨rfl, Int.le_refl _⟩
    · have := h2 j (by omega)
      omega
  · intro hc
    refine ⟨⟨k, by omega, he⟩, fun j hj => ?_⟩
    by_cases q : j = i
    · rw [q]
      have := hlt k hk
      omega
    · exact h2 j (by omega)
theorem NrM.same {f : Nat → Int} {n : Nat} {sm m k : Int} (h : NrM (fun s => smS (bitI n s) f n) (2 ^ n) sm m) (g : NrM (nth (allS f n)) (allS f n).length sm k) : m = k := by
  refine h.uniq g (fun j hj => ?_) (fun i hi => ?_)
  · obtain ⟨i, hi, e⟩ := List.getElem_of_mem ((allS_mem f n (smS (bitI n j) f n)).2 ⟨_, rfl⟩)
    exact ⟨i, hi, by rw [nth_get _ _ hi]; exact e⟩
  · have hm : nth (allS f n) i ∈ allS f n := by rw [nth_get _ _ hi]; exact List.getElem_mem hi
    unfold allS at hm
    have := (compact_sorted _ (mySort_sorted ((List.range (2 ^ n)).map fun s => smS (bitI n s) f n))).2 (nth (allS f n) i)
    have h3 := this.1 hm
    rw [mySort_mem, List.mem_map] at h3
    obtain ⟨s, hs, e⟩ := h3
    exact ⟨s, List.mem_range.1 hs, e⟩

set_option maxRecDepth 100000 in
set_option maxHeartbeats 8000000 in
theorem rNearest_any (ra : Option Addr) (n c : Nat) (f : Nat → Int) (sum : Int) (w : World) (hr : IRow w ra n f) (hn : n ≤ 11) (hf : ∀ i, i < n → -1125899906842624 ≤ f i ∧ f i ≤ 1125899906842624) (s0 : -1152921504606846976 ≤ sum) (s1 : sum ≤ 1152921504606846976) :
    Calls Tryd.prog 16 #[.slice ra n c, .int .i64 sum] w fun e w' => Below w.heap.size w w' ∧ ∃ m, e = .returned (.int .i64 m) ∧ NrM (nth (allS f n)) (allS f n).length sum m := by
  have CS := Lib.hid (rSums_any ra n c f w hr hn hf)
  have HP := allS_pos f n
  have HBD := Lib.hid (fun j (hj : j < (allS f n).length) => allS_bd hn hf j hj)
  have HA := Lib.hid (allS_asc f n)
  have hlen : (allS f n).length < 9223372036854775807 := by
    have h1 : (allS f n).length ≤ 2 ^ n := allS_len f n
    have hN : 2 ^ n ≤ 2048 := Nat.le_trans (Nat.pow_le_pow_right (by decide) hn) (by decide)
    omega
  generalize allS f n = zs at *
  have CF := fun a W (ha : -2305843009213693952 ≤ a ∧ a ≤ 2305843009213693952) => Lib.hid (far_any a sum W ha.1 ha.2 (by omega) (by omega))
  have HN := Lib.hid (fun i m (hi : i < zs.length) (h : NrM (nth zs) i sum m) => NrM.asc HA.out hi h)
  have HS := Lib.hid (And.intro s0 s1)
  clear hr hf s0 s1
  go_enter Tryd.func16, Tryd.ntmps16
  go_upto_region 2 with (go_at_call 15; (with_reducible refine ((CS.out).mono ?_)); rintro e w2 ⟨hb2, pa, pc, rfl, hown⟩)
  have HB := Lib.hid hb2
  have HZ := Lib.hid (own_z hown)
  clear hown hb2 CS
  obtain ⟨zg, zo, rfl, hzl, hzc⟩ := HZ.out HP
  have HC := Lib.hid hzc
  have p0 := HC.out 0 HP
  rw [Nat.add_zero] at p0
  clear hzc hzl
  have S0 : Hid (NrM (nth zs) 1 sum (nth zs 0)) := NrM.one _ _
  generalize nth zs 0 = m0 at *
  have l0 : (0 : Int) < (zs.length : Int) := by omega
  go_wp2_with fail
  go_loopg [7, 6] (zs.length - 1) (fun g s7 s6 wx => ∃ (i : Nat) (m : Int), s7 = .int .i64 i ∧ s6 = .int .i64 m ∧ g = zs.length - i ∧ 1 ≤ i ∧ i ≤ zs.length ∧ wx = w2 ∧ Hid (NrM (nth zs) i sum m))
  case atStart => exact ⟨1, m0, rfl, rfl, rfl, Nat.le_refl _, HP, rfl, S0⟩
  case round =>
    clear S0 p0
    obtain ⟨i, m, rfl, rfl, rfl, hi1, hi, rfl, S⟩ := hrel
    rename World => W2
    by_cases hlt : i < zs.length
    · have wi : IntKind.i64.wrap ((i : Int) + 1) = ((i + 1 : Nat) : Int) := by rw [IntWalk.i64_in _ (by omega)]; omega
      have p1 := HC.out i hlt
      have li : (i : Int) < (zs.length : Int) := by omega
      have hM : -2305843009213693952 ≤ m ∧ m ≤ 2305843009213693952 := by
        obtain ⟨k, hk, e⟩ := S.out.1
        rw [← e]; exact HBD.out k (by omega)
      have K1 := CF (nth zs i) W2 (HBD.out i hlt)
      have K2 := CF m W2 hM
      have HH := Lib.hid (HN.out i m hlt S.out)
      clear hM S
      generalize nth zs i = x at *
      generalize dis x sum = d1 at *
      generalize dis m sum = d2 at *
      by_cases hd : d1 < d2
      · have q : decide (d1 < d2) = true := decide_eq_true hd
        have T := Lib.hid (HH.out.1 hd)
        clear HH hd
        go_wp2_with (first
          | (go_at_call 49; (with_reducible refine ((K1.out).mono ?_)); rintro e w3 ⟨rfl, rfl⟩)
          | (go_at_call 49; (with_reducible refine ((K2.out).mono ?_)); rintro e w3 ⟨rfl, rfl⟩))
        go_roundg (zs.length - (i + 1))
        case measure => omega
        case rel => exact ⟨i + 1, x, rfl, rfl, rfl, by omega, by omega, rfl, T⟩
      · have q : decide (d1 < d2) = false := decide_eq_false hd
        have T := Lib.hid (HH.out.2 (by omega))
        clear HH hd
        go_wp2_with (first
          | (go_at_call 49; (with_reducible refine ((K1.out).mono ?_)); rintro e w3 ⟨rfl, rfl⟩)
          | (go_at_call 49; (with_reducible refine ((K2.out).mono ?_)); rintro e w3 ⟨rfl, rfl⟩))
        go_roundg (zs.length - (i + 1))
        case measure => omega
        case rel => exact ⟨i + 1, m, rfl, rfl, rfl, by omega, by omega, rfl, T⟩
    · have e : i = zs.length := by omega
      have SS : Hid (NrM (nth zs) zs.length sum m) := by rw [← e]; exact S
      have li : ¬ (i : Int) < (zs.length : Int) := by omega
      clear S e
      go_wp2_with fail
      go_ret
      exact ⟨HB.out, m, rfl, SS.out⟩
theorem Sums_bad (ra : Option Addr) (n c : Nat) (f : Nat → Int) (w : World) (hr : IRow w ra n f) (hn : n ≤ 9223372036854775807) (hg : givE n f ≠ 0) :
    Calls Tryd.prog 11 #[.slice ra n c] w fun e w' => Below w.heap.size w w' ∧ e = .returned (.tuple #[.slice none 0 0, .int .i64 (givE n f)]) := by
  have CV := Lib.hid (valid_any ra n c f w hr hn)
  have q : (givE n f != 0) = true := by simpa using hg
  generalize givE n f = er at *
  clear hr hg
  go_enter Tryd.func11, Tryd.ntmps11
  go_wp2_with (go_at_call 38; (with_reducible refine ((CV.out).mono ?_)); rintro e w2 ⟨rfl, hb2⟩)
  go_ret2
  exact ⟨hb2, rfl⟩
set_option maxRecDepth 100000 in
set_option maxHeartbeats 32000000 in
theorem lawSums_any (ra : Option Addr) (n c : Nat) (f : Nat → Int) (sum : Int) (w : World) (hr : IRow w ra n f) (hd : DB w) (hn : n ≤ 9223372036854775807) :
    Calls Tryd.prog 3 #[.slice ra n c, .int .i64 sum] w fun e w' => e = .returned (.bool true) ∧ Below w.heap.size w w' := by
  have HR := Lib.hid hr
  have CA := Lib.hid (awake_any w hd)
  have HD := Lib.hid hd
  have CL := fun W => Lib.hid (long_any ra n c W)
  have CG := fun W (h : Below w.heap.size w W) => Lib.hid (Given_any ra n c f W (HR.out.on h) hn)
  clear hr hd
  by_cases hlong : 8 < n ∧ n ≤ 16 ∨ 100 < n
  · rw [decide_eq_true hlong] at CL
    clear hlong
    go_enter Tryd.func3, Tryd.ntmps3
    go_wp2_with (first
      | (go_at_call 9; (with_reducible refine ((CA.out).mono ?_)); rintro e w2 ⟨rfl, hb2⟩)
      | (go_at_call 10; (with_reducible refine (((CL _).out).mono ?_)); rintro e w3 ⟨rfl, rfl⟩))
    go_ret
    exact ⟨rfl, hb2⟩
  · rw [decide_eq_false hlong] at CL
    by_cases hg : givE n f = 0
    · obtain ⟨hn8, hok⟩ : n ≤ 8 ∧ okF n f = true := by
        unfold givE at hg
        split at hg
        · cases hg
        · split at hg
          · rename_i h1 h2; exact ⟨by omega, h2⟩
          · cases hg
      have hf := of_decide_eq_true hok
      have hln : (allS f n).length ≤ 256 := Nat.le_trans (allS_len f n) (Nat.le_trans (Nat.pow_le_pow_right (by decide) hn8) (by decide))
      have C1 := fun W (h : Below w.heap.size w W) => Lib.hid (Sums_ok ra n c f W (HR.out.on h) (HD.out.on h) (by omega) hok)
      have R1 := fun W (h : Below w.heap.size w W) => Lib.hid (rSums_any ra n c f W (HR.out.on h) (by omega) hf)
      by_cases hs : sum < -1152921504606846976 ∨ 1152921504606846976 < sum
      · have C2 := fun W (h : Below w.heap.size w W) => Lib.hid (Nearest_range ra n c f sum W (HR.out.on h) hn hg hs)
        rw [hg] at CG
        have EQ := fun W g gc pa pc (h1 : ZRow W (some ⟨g, 0, none⟩) (allS f n)) (h2 : ZRow W pa (allS f n)) => Lib.hid (eq_true (allS f n).length (allS f n).length (some ⟨g, 0, none⟩) gc (allS f n) pa pc (allS f n) W h1 h2 rfl rfl (by omega) (by omega) rfl)
        generalize 2 ^ n = M at *
        clear hf hg hok hlong
        rcases hs with hs | hs
        · have l1 : decide (sum < -1152921504606846976) = true := decide_eq_true hs
          go_enter Tryd.func3, Tryd.ntmps3
          go_wp2_with (first
            | (go_at_call 9; (with_reducible refine ((CA.out).mono ?_)); rintro e w2 ⟨rfl, hb2⟩)
            | (go_at_call 10; (with_reducible refine (((CL _).out).mono ?_)); rintro e w3 ⟨rfl, rfl⟩)
            | (go_at_call 11; (with_reducible refine (((C1 _ hb2).out).mono ?_)); rintro e w3 ⟨hb3, g, rfl, hrow⟩; have HB3 := Lib.hid (below_on hb2 hb3); have Z1 := Lib.hid (hrow.irow))
            | (go_at_call 12; (with_reducible refine (((C2 _ HB3.out).out).mono ?_)); rintro e w4 ⟨hb4, rfl⟩; have HB4 := Lib.hid (below_on HB3.out hb4); have Z2 := Lib.hid (Z1.out.on hb4))
            | (go_at_call 13; (with_reducible refine (((CG _ HB4.out).out).mono ?_)); rintro e w5 ⟨rfl, rfl⟩)
            | (go_at_call 15; (with_reducible refine (((R1 _ HB4.out).out).mono ?_)); rintro e w6 ⟨hb6, pa, pc, rfl, hown⟩; have HB6 := Lib.hid (below_on HB4.out hb6); have K := (EQ _ g M pa pc (Z2.out.on hb6) (own_z hown)).out)
            | (go_at_call 14; (with_reducible refine (K.mono ?_)); rintro e w7 ⟨rfl, hb7⟩))
          go_ret
          exact ⟨rfl, below_on HB6.out hb7⟩
        · have l1 : ¬ sum < -1152921504606846976 := by omega
          have l2 : sum > 1152921504606846976 := hs
          go_enter Tryd.func3, Tryd.ntmps3
          go_wp2_with (first
            | (go_at_call 9; (with_reducible refine ((CA.out).mono ?_)); rintro e w2 ⟨rfl, hb2⟩)
            | (go_at_call 10; (with_reducible refine (((CL _).out).mono ?_)); rintro e w3 ⟨rfl, rfl⟩)
            | (go_at_call 11; (with_reducible refine (((C1 _ hb2).out).mono ?_)); rintro e w3 ⟨hb3, g, rfl, hrow⟩; have HB3 := Lib.hid (below_on hb2 hb3); have Z1 := Lib.hid (hrow.irow))
            | (go_at_call 12; (with_reducible refine (((C2 _ HB3.out).out).mono ?_)); rintro e w4 ⟨hb4, rfl⟩; have HB4 := Lib.hid (below_on HB3.out hb4); have Z2 := Lib.hid (Z1.out.on hb4))
            | (go_at_call 13; (with_reducible refine (((CG _ HB4.out).out).mono ?_)); rintro e w5 ⟨rfl, rfl⟩)
            | (go_at_call 15; (with_reducible refine (((R1 _ HB4.out).out).mono ?_)); rintro e w6 ⟨hb6, pa, pc, rfl, hown⟩; have HB6 := Lib.hid (below_on HB4.out hb6); have K := (EQ _ g M pa pc (Z2.out.on hb6) (own_z hown)).out)
            | (go_at_call 14; (with_reducible refine (K.mono ?_)); rintro e w7 ⟨rfl, hb7⟩))
          go_ret
          exact ⟨rfl, below_on HB6.out hb7⟩
      · have hs1 : -1152921504606846976 ≤ sum ∧ sum ≤ 1152921504606846976 := by omega
        have C2 := fun W (h : Below w.heap.size w W) => Lib.hid (Nearest_ok ra n c f sum W (HR.out.on h) (HD.out.on h) (by omega) hok hs1.1 hs1.2)
        have R2 := fun W (h : Below w.heap.size w W) => Lib.hid (rNearest_any ra n c f sum W (HR.out.on h) (by omega) hf hs1.1 hs1.2)
        have F1 := fun m W (h : Below w.heap.size w W) => Lib.hid (rFirst_any ra n c f m 0 W (HR.out.on h) (by omega) hf (by omega))
        rw [hg] at CG
        clear hf hg hok hlong
        have l1 : ¬ sum < -1152921504606846976 := by omega
        have l2 : ¬ sum > 1152921504606846976 := by omega
        have EQ := fun W g gc pa pc (h1 : ZRow W (some ⟨g, 0, none⟩) (allS f n)) (h2 : ZRow W pa (allS f n)) => Lib.hid (eq_true (allS f n).length (allS f n).length (some ⟨g, 0, none⟩) gc (allS f n) pa pc (allS f n) W h1 h2 rfl rfl (by omega) (by omega) rfl)
        have EI := fun (l : List Nat) W pa pc qa qc (hl : l.length ≤ 16) (h1 : Idx W pa l) (h2 : Idx W qa l) => Lib.hid (eq_true l.length l.length pa pc (l.map fun (i : Nat) => (i : Int)) qa qc (l.map fun (i : Nat) => (i : Int)) W h1.z h2.z (by simp) (by simp) (by omega) (by omega) rfl)
        have CI := fun (t : Nat) (l : List Nat) W (ht : t < 2 ^ n) (he : LR n t = l) => Lib.hid (show Calls Tryd.prog 17 #[.slice ra n c, .int .i64 (t : Int)] W fun e w' => Below W.heap.size W w' ∧ ∃ pa pc, e = .returned (.slice pa l.length pc) ∧ w'.ownsRow W.heap.size 3 1 (.slice pa l.length pc) l.length (l.map fun i => Value.int .i64 (i : Nat)) from he ▸ rInd_any ra n c t W (by omega) (by have := Nat.pow_le_pow_right (show 1 ≤ 2 by decide) hn8; omega))
        rw [show ((0 : Nat) : Int) = 0 from rfl] at F1
        have HM := Lib.hid (fun m k (h : NrM (fun s => smS (bitI n s) f n) (2 ^ n) sum m) (g : NrM (nth (allS f n)) (allS f n).length sum k) => h.same g)
        have HT := Lib.hid (fun m b l (h : RfI f n m 0 (2 ^ n) b) (k : IsFst (Fam f n m 0) l) => (show ∃ t : Nat, b = (t : Int) ∧ t < 2 ^ n ∧ LR n t = l from by
          rcases h.done with ⟨_, h3⟩ | ⟨t, rfl, ht, h3⟩
          · exact absurd k.1 (h3 _)
          · exact ⟨t, rfl, ht, h3.uniq k⟩))
        clear hs1 hs hln
        go_enter Tryd.func3, Tryd.ntmps3
        go_wp2_with (first
          | (go_at_call 9; (with_reducible refine ((CA.out).mono ?_)); rintro e w2 ⟨rfl, hb2⟩)
          | (go_at_call 10; (with_reducible refine (((CL _).out).mono ?_)); rintro e w3 ⟨rfl, rfl⟩)
          | (go_at_call 11; (with_reducible refine (((C1 _ hb2).out).mono ?_)); rintro e w3 ⟨hb3, g, rfl, hrow⟩; have HB3 := Lib.hid (below_on hb2 hb3); have Z1 := Lib.hid (hrow.irow))
          | (go_at_call 12; (with_reducible refine (((C2 _ HB3.out).out).mono ?_)); rintro e w4 ⟨hb4, m, l, ma, mc, rfl, hM, hF, hl, hown⟩; have HB4 := Lib.hid (below_on HB3.out hb4); have Z2 := Lib.hid (Z1.out.on hb4); have I1 := Lib.hid (own_idx hown); have HMM := Lib.hid hM; have HFF := Lib.hid hF; clear hM hF hown)
          | (go_at_call 13; (with_reducible refine (((CG _ HB4.out).out).mono ?_)); rintro e w5 ⟨rfl, rfl⟩)
          | (go_at_call 15; (with_reducible refine (((R1 _ HB4.out).out).mono ?_)); rintro e w6 ⟨hb6, pa, pc, rfl, hown⟩; have HB6 := Lib.hid (below_on HB4.out hb6); have I2 := Lib.hid (I1.out.on hb6); have K := Lib.hid (EQ _ g (2 ^ n) pa pc (Z2.out.on hb6) (own_z hown)).out; clear hown)
          | (go_at_call 14; (with_reducible refine (K.out.mono ?_)); rintro e w7 ⟨rfl, hb7⟩; have HB7 := Lib.hid (below_on HB6.out hb7); have I3 := Lib.hid (I2.out.on hb7))
          | (go_at_call 16; (with_reducible refine (((R2 _ HB7.out).out).mono ?_)); rintro e w8 ⟨hb8, m2, rfl, hM2⟩; have HB8 := Lib.hid (below_on HB7.out hb8); have I4 := Lib.hid (I3.out.on hb8); have em := HM.out _ _ HMM.out hM2; subst em; clear hM2)
          | (go_at_call 18; (with_reducible refine (((F1 _ _ HB8.out).out).mono ?_)); rintro e w9 ⟨hb9, b, rfl, hbb⟩; have HB9 := Lib.hid (below_on HB8.out hb9); have I5 := Lib.hid (I4.out.on hb9); obtain ⟨t, rfl, ht, hLR⟩ := HT.out _ _ _ hbb HFF.out; have K2 := Lib.hid ((CI t _ w9 ht hLR).out); clear hbb ht hLR)
          | (go_at_call 17; (with_reducible refine ((K2.out).mono ?_)); rintro e w10 ⟨hb10, qa, qc, rfl, hown2⟩; have HB10 := Lib.hid (below_on HB9.out hb10); have K3 := Lib.hid ((EI _ _ ma mc qa qc (by omega) (I5.out.on hb10) (own_idx hown2)).out); clear hown2)
          | (go_at_call 14; (with_reducible refine (K3.out.mono ?_)); rintro e w11 ⟨rfl, hb11⟩))
        go_ret
        exact ⟨rfl, below_on HB10.out hb11⟩
    · have C1 := fun W (h : Below w.heap.size w W) => Lib.hid (Sums_bad ra n c f W (HR.out.on h) hn hg)
      have C2 := fun W (h : Below w.heap.size w W) => Lib.hid (Nearest_bad ra n c f sum W (HR.out.on h) hn hg)
      have q : (givE n f != 0) = true := by simpa using hg
      generalize givE n f = er at *
      clear hlong hg
      go_enter Tryd.func3, Tryd.ntmps3
      go_wp2_with (first
        | (go_at_call 9; (with_reducible refine ((CA.out).mono ?_)); rintro e w2 ⟨rfl, hb2⟩)
        | (go_at_call 10; (with_reducible refine (((CL _).out).mono ?_)); rintro e w3 ⟨rfl, rfl⟩)
        | (go_at_call 11; (with_reducible refine (((C1 _ hb2).out).mono ?_)); rintro e w3 ⟨hb3, rfl⟩; have HB3 := Lib.hid (below_on hb2 hb3))
        | (go_at_call 12; (with_reducible refine (((C2 _ HB3.out).out).mono ?_)); rintro e w4 ⟨hb4, rfl⟩; have HB4 := Lib.hid (below_on HB3.out hb4))
        | (go_at_call 13; (with_reducible refine (((CG _ HB4.out).out).mono ?_)); rintro e w5 ⟨rfl, rfl⟩))
      go_ret
      exact ⟨rfl, HB4.out⟩
theorem sums_at (ra : Option Addr) (n c : Nat) (f : Nat → Int) (sum : Int) (w : World) (hd : DB w) (hr : IRow w ra n f) (hn : n ≤ 9223372036854775807) :
    Calls Tryd.prog 3 #[.slice ra n c, .int .i64 sum] w fun e w' => e = .returned (.bool true) ∧ Below w.heap.size w w' :=
  lawSums_any ra n c f sum w hr hd hn
end Go.Proofs.YtlgpckjhnohhhaaDoor
