/- Layer 7: the law SubsetsParts, walked. -/
import Derived.Test.YtjonhhmapbibaaaDoorURpt
import Derived.Test.YtjonhhmapbibaaaDoorUPsl
import Derived.Test.YtjonhhmapbibaaaDoorUChr
import Derived.Test.YtjonhhmapbibaaaDoorUAwa
import Derived.Test.YtjonhhmapbibaaaDoorUSame
namespace Go.Proofs.YtjonhhmapbibaaaDoor
open Go.ChangeShapes Go.WideShapes Go.ChangeAt Go.RowKit Go.Joins Go.Deep Go.Shelf
set_option linter.unusedVariables false

/-- The reference takes the same parts. -/
theorem parts_same {n : Nat} {f C : Nat → Int} (hn : n ≤ 16) (hC : ∀ t, t < 2 ^ n → IsCnt (fun s => smS (bitR s) f n) t (C t)) : ∀ (qs : List Nat) (left : Nat) (ps : List Nat), left < 2 ^ n → smS (bitR left) f n = 0 → PtC (fun s => smS (bitR s) f n) C n left qs → PtR (fun s => smS (bitI n s) f n) (fun s => (mst n (fun s => smS (bitI n s) f n) s : Int)) (rv n left) ps → idxs n ps = qs.map (LR n)
  | [], left, ps, hl, hz, h1, h2 => by
    have e : left = 0 := h1
    subst e
    cases ps with
    | nil => rfl
    | cons p ps =>
      exfalso
      refine h2.1 (Nat.eq_of_testBit_eq fun i => ?_)
      rcases Nat.lt_or_ge i n with z | z
      · rw [rv_bit _ _ _ z]; simp
      · rw [rv_hi _ _ _ z]; simp
  | q :: qs, left, ps, hl, hz, h1, h2 => by
    have h2' := p2_le hn
    have aR := smS_addR n f hn
    obtain ⟨h0, hq, hmin, hrest⟩ := h1
    cases ps with
    | nil => exact absurd h2 (ne_rv hl h0)
    | cons p ps =>
      obtain ⟨_, p1, p2, p3, p4⟩ := h2
      have hcl := IsCnt.mst hn aR hl hz (hC left hl)
      have hcr : ∀ r, Qt (fun s => smS (bitR s) f n) left r → left - r = anb left r ∧ smS (bitR (anb left r)) f n = 0 ∧ C (left - r) = (mst n (fun s => smS (bitR s) f n) (anb left r) : Nat) := fun r hr => by
        have e := sub_minus left r hr.1 (by omega)
        have hlr : anb left r < 2 ^ n := Nat.lt_of_le_of_lt (anb_le _ _) hl
        have z : smS (bitR (anb left r)) f n = 0 := by
          have := aR.add left r hl hr.1
          have h5 := hr.2.2
          simp only at this h5
          omega
        exact ⟨e, z, by rw [e]; exact IsCnt.mst hn aR hlr z (hC _ hlr)⟩
      obtain ⟨eq1, zq, cq⟩ := hcr q hq.1
      have hcd := hq.2
      have hpq : rv n q = p := part_same hn hl h0 hz p1 p2 p3 hq.1 (by omega) (fun r hr hm => hmin r ⟨hr, by
        obtain ⟨_, _, cr⟩ := hcr r hr
        omega⟩)
      have hql := hq.1.le
      have hlr : anb left q < 2 ^ n := Nat.lt_of_le_of_lt (anb_le _ _) hl
      rw [eq1] at hrest
      rw [← hpq, ← anb_rv hn hl (by omega)] at p4
      have ih := parts_same hn hC qs (anb left q) ps hlr zq hrest p4
      show ixs (bitI n p) n :: idxs n ps = LR n q :: qs.map (LR n)
      rw [ih, ← hpq, LR_rv]
theorem Parts_bad (ra : Option Addr) (n c : Nat) (f : Nat → Int) (w : World) (hr : IRow w ra n f) (hn : n ≤ 9223372036854775807) (hg : givE n f ≠ 0) :
    Calls Tryd.prog 9 #[.slice ra n c] w fun e w' => Below w.heap.size w w' ∧ e = .returned (.tuple #[.slice none 0 0, .int .i64 (givE n f)]) := by
  have CV := Lib.hid (valid_any ra n c f w hr hn)
  have q : (givE n f != 0) = true := by simpa using hg
  generalize givE n f = er at *
  clear hr hg
  go_enter Tryd.func9, Tryd.ntmps9
  go_wp2_with (go_at_call 20; (with_reducible refine ((CV.out).mono ?_)); rintro e w2 ⟨rfl, hb2⟩)
  go_ret2
  exact ⟨hb2, rfl⟩
theorem PtR_bd {n : Nat} {F : Nat → Int} {m : Nat → Int} (hn : n ≤ 16) : ∀ {left : Nat} {ps : List Nat}, left < 2 ^ n → PtR F m left ps → ps.length ≤ left
  | _, [], _, _ => Nat.zero_le _
  | left, p :: ps, hl, h => by
    have h2 := p2_le hn
    obtain ⟨h0, hs, hf, _, hr⟩ := h
    have hp0 : p ≠ 0 := fun e => by
      subst e
      have := hf.2
      rw [show anb left 0 = left from Nat.eq_of_testBit_eq fun i => by rw [ab_bit (by omega) (by omega), Nat.zero_testBit]; simp] at this
      omega
    have := anb_lt (by omega) hs hp0
    have := PtR_bd hn (Nat.lt_of_le_of_lt (anb_le left p) hl) hr
    simp
    omega
theorem PtC_bd {n : Nat} {F C : Nat → Int} : ∀ {left : Nat} {qs : List Nat}, PtC F C n left qs → qs.length ≤ left
  | _, [], _ => Nat.zero_le _
  | left, q :: qs, h => by
    obtain ⟨h0, hq, _, hr⟩ := h
    have := hq.1.pos
    have := hq.1.le
    have := PtC_bd hr
    simp
    omega
set_option maxRecDepth 100000 in
set_option maxHeartbeats 32000000 in
theorem lawParts_any (ra : Option Addr) (n c : Nat) (f : Nat → Int) (pa : Option Addr) (zss : List (List Int)) (pc : Nat) (w : World) (hr : IRow w ra n f) (hd : DB w) (hn : n ≤ 9223372036854775807) (hz : LZ w pa zss) (hzn : zss.length ≤ 9223372036854775807) :
    Calls Tryd.prog 3 #[.slice ra n c, .slice pa zss.length pc] w fun e w' => e = .returned (.bool true) ∧ Below w.heap.size w w' := by
  have HR := Lib.hid hr
  have HZ := Lib.hid hz
  have CA := Lib.hid (awake_any w hd)
  have HD := Lib.hid hd
  have CL := fun W => Lib.hid (long_any ra n c W)
  have CG := fun W (h : Below w.heap.size w W) => Lib.hid (Given_any ra n c f W (HR.out.on h) hn)
  clear hr hd hz
  by_cases hlong : 8 < n ∧ n ≤ 16 ∨ 100 < n
  · rw [decide_eq_true hlong] at CL
    clear hlong
    generalize zss.length = m at *
    go_enter Tryd.func3, Tryd.ntmps3
    go_wp2_with (first
      | (go_at_call 5; (with_reducible refine ((CA.out).mono ?_)); rintro e w2 ⟨rfl, hb2⟩)
      | (go_at_call 6; (with_reducible refine (((CL _).out).mono ?_)); rintro e w3 ⟨rfl, rfl⟩))
    go_ret
    exact ⟨rfl, hb2⟩
  rw [decide_eq_false hlong] at CL
  by_cases hm : 20 < zss.length
  · have q0 : (zss.length : Int) > 20 := by omega
    have q00 : decide ((20 : Int) < (zss.length : Int)) = true := decide_eq_true (by omega)
    generalize zss.length = m at *
    clear hlong hm
    go_enter Tryd.func3, Tryd.ntmps3
    go_wp2_with (first
      | (go_at_call 5; (with_reducible refine ((CA.out).mono ?_)); rintro e w2 ⟨rfl, hb2⟩)
      | (go_at_call 6; (with_reducible refine (((CL _).out).mono ?_)); rintro e w3 ⟨rfl, rfl⟩))
    go_ret
    exact ⟨rfl, hb2⟩
  have q0 : ¬ (zss.length : Int) > 20 := by omega
  have q00 : decide ((20 : Int) < (zss.length : Int)) = false := decide_eq_false (by omega)
  have CX := fun W (h : Below w.heap.size w W) => Lib.hid (longs_any pa pc zss W (HZ.out.on h) (by omega))
  by_cases hlr : LongR zss
  · rw [decide_eq_true hlr] at CX
    clear hlr hlong hm
    generalize zss.length = m at *
    go_enter Tryd.func3, Tryd.ntmps3
    go_wp2_with (first
      | (go_at_call 5; (with_reducible refine ((CA.out).mono ?_)); rintro e w2 ⟨rfl, hb2⟩)
      | (go_at_call 6; (with_reducible refine (((CL _).out).mono ?_)); rintro e w3 ⟨rfl, rfl⟩)
      | (go_at_call 7; (with_reducible refine (((CX _ hb2).out).mono ?_)); rintro e w4 ⟨rfl, rfl⟩))
    go_ret
    exact ⟨rfl, hb2⟩
  have hzl : ∀ j, (rowZ zss j).length ≤ 20 := fun j => by
    by_cases h : j < zss.length
    · exact Nat.le_of_not_lt (fun h2 => hlr ⟨j, h, h2⟩)
    · unfold rowZ
      rw [List.getD_eq_getElem?_getD, List.getElem?_eq_none (by omega)]; simp
  rw [decide_eq_false hlr] at CX
  by_cases hg : givE n f = 0
  case neg =>
    have C1 := fun W (h : Below w.heap.size w W) => Lib.hid (Parts_bad ra n c f W (HR.out.on h) hn hg)
    have C2 := fun W (h : Below w.heap.size w W) => Lib.hid (Check_bad ra n c f (.slice pa zss.length pc) W (HR.out.on h) hn hg)
    have q : (givE n f != 0) = true := by simpa using hg
    have hr2 : -2 ≤ givE n f ∧ givE n f ≤ 100 := by unfold givE; split <;> (try split) <;> omega
    generalize givE n f = er at *
    generalize zss.length = m at *
    clear hlong hg hlr hm
    go_enter Tryd.func3, Tryd.ntmps3
    go_wp2_with (first
      | (go_at_call 5; (with_reducible refine ((CA.out).mono ?_)); rintro e w2 ⟨rfl, hb2⟩)
      | (go_at_call 6; (with_reducible refine (((CL _).out).mono ?_)); rintro e w3 ⟨rfl, rfl⟩)
      | (go_at_call 7; (with_reducible refine (((CX _ hb2).out).mono ?_)); rintro e w4 ⟨rfl, rfl⟩)
      | (go_at_call 9; (with_reducible refine (((C1 _ hb2).out).mono ?_)); rintro e w5 ⟨hb5, rfl⟩; have HB5 := Lib.hid (below_on hb2 hb5))
      | (go_at_call 10; (with_reducible refine (((C2 _ HB5.out).out).mono ?_)); rintro e w6 ⟨hb6, rfl⟩; have HB6 := Lib.hid (below_on HB5.out hb6))
      | (go_at_call 11; (with_reducible refine (((CG _ HB6.out).out).mono ?_)); rintro e w7 ⟨rfl, rfl⟩))
    go_ret
    exact ⟨rfl, HB6.out⟩
  obtain ⟨hn8, hok⟩ : n ≤ 8 ∧ okF n f = true := by
    unfold givE at hg
    split at hg
    · cases hg
    · split at hg
      · rename_i h1 h2; exact ⟨by omega, h2⟩
      · cases hg
  have hf := of_decide_eq_true hok
  rw [hg] at CG
  have C1 := fun W (h : Below w.heap.size w W) => Lib.hid (Parts_ok ra n c f W (HR.out.on h) (HD.out.on h) (by omega) hok)
  have R1 := fun W (h : Below w.heap.size w W) => Lib.hid (rParts_any (fun s => smS (bitR s) f n) ra n c f (fun t => rfl) W (HR.out.on h) (by omega) hok)
  have C2 := fun W (h : Below w.heap.size w W) => Lib.hid (Check_any ra n c f pa pc zss W (HR.out.on h) (by omega) hok (HZ.out.on h) (by omega) (fun j => by have := hzl j; omega))
  have R2 := fun W (h : Below w.heap.size w W) => Lib.hid (rChk_any ra n c f pa pc zss W (HR.out.on h) (by omega) hf (HZ.out.on h) (by omega) (fun j => by have := hzl j; omega))
  have hN : 2 ^ n ≤ 256 := Nat.pow_le_pow_right (show 2 > 0 by decide) hn8
  have hN0 := Nat.two_pow_pos n
  have hwh : smS (bitI n (2 ^ n - 1)) f n = smS (bitR (2 ^ n - 1)) f n := by rw [← F_rv, rv_whole]
  have CS := fun W pa pc (ls : List (List Nat)) qa qc (ms : List (List Nat)) (h1 : LL W pa ls) (h2 : LL W qa ms) n1 n2 n3 n4 => Lib.hid (Same_any pa pc ls qa qc ms W h1 h2 n1 n2 n3 n4)
  by_cases hzz : smS (bitI n (2 ^ n - 1)) f n = 0
  · have K1 := fun W (h : Below w.heap.size w W) => Lib.hid (show Calls Tryd.prog 9 #[.slice ra n c] W fun e w' => Below W.heap.size W w' ∧ ∃ ps pa pc, e = .returned (.tuple #[.slice pa (idxs n ps).length pc, .int .i64 0]) ∧ PtR (fun s => smS (bitI n s) f n) (fun s => (mst n (fun s => smS (bitI n s) f n) s : Int)) (2 ^ n - 1) ps ∧ LL w' pa (idxs n ps) from ((C1 W h).out).mono fun e w' ⟨hb, hh⟩ => by
        rcases hh with ⟨h, _⟩ | ⟨_, ps, v, rows, h1, h2, h3⟩
        · exact absurd hzz h
        · obtain ⟨pa, pc, rfl⟩ := own_form h3.top
          exact ⟨hb, ps, pa, pc, h1, h2, h3.ll⟩)
    have K2 := fun W (h : Below w.heap.size w W) ps (hp : PtR (fun s => smS (bitI n s) f n) (fun s => (mst n (fun s => smS (bitI n s) f n) s : Int)) (2 ^ n - 1) ps) => Lib.hid (show Calls Tryd.prog 12 #[.slice ra n c] W fun e w' => Below W.heap.size W w' ∧ ∃ pa pc, e = .returned (.tuple #[.slice pa (idxs n ps).length pc, .int .i64 0]) ∧ LL w' pa (idxs n ps) from ((R1 W h).out).mono fun e w' ⟨hb, hh⟩ => by
        rcases hh with ⟨h, _⟩ | ⟨hz2, C, qs, v, rows, h1, hC, h2, h3⟩
        · rw [hwh] at hzz; exact absurd hzz h
        · obtain ⟨pa, pc, rfl⟩ := own_form h3.top
          have := parts_same (by omega) hC qs (2 ^ n - 1) ps (by omega) (by rw [← hwh]; exact hzz) h2 (by rw [rv_whole]; exact hp)
          rw [← this] at h1 h3
          exact ⟨hb, pa, pc, h1, h3.ll⟩)
    have HBD := Lib.hid (fun ps (hp : PtR (fun s => smS (bitI n s) f n) (fun s => (mst n (fun s => smS (bitI n s) f n) s : Int)) (2 ^ n - 1) ps) => (show (idxs n ps).length ≤ 256 ∧ ∀ l ∈ idxs n ps, l.length ≤ 1000 from by
      have := PtR_bd (show n ≤ 16 by omega) (by omega) hp
      refine ⟨by unfold idxs; rw [List.length_map]; omega, fun l hl => ?_⟩
      unfold idxs at hl
      obtain ⟨p, _, rfl⟩ := List.mem_map.1 hl
      have : (ixs (bitI n p) n).length ≤ n := by unfold ixs; exact Nat.le_trans (List.length_filter_le _ _) (by simp)
      omega))
    clear C1 R1 hwh hzz hN hN0 hf hg hok hlong hzl hlr
    generalize decide (ChkS n f zss) = ck at *
    generalize zss.length = m at *
    go_enter Tryd.func3, Tryd.ntmps3
    go_wp2_with (first
      | (go_at_call 5; (with_reducible refine ((CA.out).mono ?_)); rintro e w2 ⟨rfl, hb2⟩)
      | (go_at_call 6; (with_reducible refine (((CL _).out).mono ?_)); rintro e w3 ⟨rfl, rfl⟩)
      | (go_at_call 7; (with_reducible refine (((CX _ hb2).out).mono ?_)); rintro e w4 ⟨rfl, rfl⟩)
      | (go_at_call 9; (with_reducible refine (((K1 _ hb2).out).mono ?_)); rintro e w5 ⟨hb5, ps, ua, uc, rfl, hps, hll⟩; have HB5 := Lib.hid (below_on hb2 hb5); have LL5 := Lib.hid hll; have HPS := Lib.hid hps; have hbd := HBD.out ps hps; clear hll hps)
      | (go_at_call 10; (with_reducible refine (((C2 _ HB5.out).out).mono ?_)); rintro e w6 ⟨hb6, rfl⟩; have HB6 := Lib.hid (below_on HB5.out hb6); have LL6 := Lib.hid (LL5.out.on hb6))
      | (go_at_call 11; (with_reducible refine (((CG _ HB6.out).out).mono ?_)); rintro e w7 ⟨rfl, rfl⟩)
      | (go_at_call 12; (with_reducible refine (((K2 _ HB6.out ps HPS.out).out).mono ?_)); rintro e w8 ⟨hb8, va, vc, rfl, hll2⟩; have HB8 := Lib.hid (below_on HB6.out hb8); have LL8 := Lib.hid (LL6.out.on hb8); have MM8 := Lib.hid hll2; have E8 := CS _ ua uc (idxs n ps) va vc (idxs n ps) LL8.out MM8.out (by omega) (by omega) hbd.2 hbd.2; rw [decide_eq_true rfl] at E8; clear hll2)
      | (go_at_call 13; (with_reducible refine ((E8.out).mono ?_)); rintro e w9 ⟨rfl, hb9⟩; have HB9 := Lib.hid (below_on HB8.out hb9))
      | (go_at_call 14; (with_reducible refine (((R2 _ HB9.out).out).mono ?_)); rintro e w10 ⟨hb10, rfl⟩; have HB10 := Lib.hid (below_on HB9.out hb10)))
    go_ret
    exact ⟨by (first | rfl | simp), HB10.out⟩
  · have K1 := fun W (h : Below w.heap.size w W) => Lib.hid (show Calls Tryd.prog 9 #[.slice ra n c] W fun e w' => Below W.heap.size W w' ∧ e = .returned (.tuple #[.slice none 0 0, .int .i64 18]) from ((C1 W h).out).mono fun e w' ⟨hb, hh⟩ => by
        rcases hh with ⟨_, h⟩ | ⟨h, _⟩
        · exact ⟨hb, h⟩
        · exact absurd h hzz)
    have K2 := fun W (h : Below w.heap.size w W) => Lib.hid (show Calls Tryd.prog 12 #[.slice ra n c] W fun e w' => Below W.heap.size W w' ∧ e = .returned (.tuple #[.slice none 0 0, .int .i64 18]) from ((R1 W h).out).mono fun e w' ⟨hb, hh⟩ => by
        rcases hh with ⟨_, h⟩ | ⟨h, _⟩
        · exact ⟨hb, h⟩
        · rw [hwh] at hzz; exact absurd h hzz)
    have E8 := fun W => CS W none 0 [] none 0 [] (fun h => absurd h (by simp)) (fun h => absurd h (by simp)) (by simp) (by simp) (by simp) (by simp)
    rw [decide_eq_true rfl] at E8
    simp only [List.length_nil] at E8
    clear C1 R1 hwh hzz hN hN0 hf hg hok hlong hzl hlr CS
    generalize decide (ChkS n f zss) = ck at *
    generalize zss.length = m at *
    go_enter Tryd.func3, Tryd.ntmps3
    go_wp2_with (first
      | (go_at_call 5; (with_reducible refine ((CA.out).mono ?_)); rintro e w2 ⟨rfl, hb2⟩)
      | (go_at_call 6; (with_reducible refine (((CL _).out).mono ?_)); rintro e w3 ⟨rfl, rfl⟩)
      | (go_at_call 7; (with_reducible refine (((CX _ hb2).out).mono ?_)); rintro e w4 ⟨rfl, rfl⟩)
      | (go_at_call 9; (with_reducible refine (((K1 _ hb2).out).mono ?_)); rintro e w5 ⟨hb5, rfl⟩; have HB5 := Lib.hid (below_on hb2 hb5))
      | (go_at_call 10; (with_reducible refine (((C2 _ HB5.out).out).mono ?_)); rintro e w6 ⟨hb6, rfl⟩; have HB6 := Lib.hid (below_on HB5.out hb6))
      | (go_at_call 11; (with_reducible refine (((CG _ HB6.out).out).mono ?_)); rintro e w7 ⟨rfl, rfl⟩)
      | (go_at_call 12; (with_reducible refine (((K2 _ HB6.out).out).mono ?_)); rintro e w8 ⟨hb8, rfl⟩; have HB8 := Lib.hid (below_on HB6.out hb8))
      | (go_at_call 13; (with_reducible refine (((E8 _).out).mono ?_)); rintro e w9 ⟨rfl, hb9⟩; have HB9 := Lib.hid (below_on HB8.out hb9))
      | (go_at_call 14; (with_reducible refine (((R2 _ HB9.out).out).mono ?_)); rintro e w10 ⟨hb10, rfl⟩; have HB10 := Lib.hid (below_on HB9.out hb10)))
    go_ret
    exact ⟨by (first | rfl | simp), HB10.out⟩
theorem parts_at (ra : Option Addr) (n c : Nat) (f : Nat → Int) (pa : Option Addr) (zss : List (List Int)) (pc : Nat) (w : World) (hd : DB w) (hr : IRow w ra n f) (hn : n ≤ 9223372036854775807) (hz : LZ w pa zss) (hzn : zss.length ≤ 9223372036854775807) (_ : ∀ j, (rowZ zss j).length ≤ 9223372036854775807) :
    Calls Tryd.prog 3 #[.slice ra n c, .slice pa zss.length pc] w fun e w' => e = .returned (.bool true) ∧ Below w.heap.size w w' :=
  lawParts_any ra n c f pa zss pc w hr hd hn hz hzn
end Go.Proofs.YtjonhhmapbibaaaDoor
