/- The walk of the law DecimalBack. -/
import Derived.Test.YtbpcfgeefelfdaaAwake
import Derived.Test.YtbpcfgeefelfdaaBackMath2
namespace Go.Proofs.Ytbpcfgeefelfdaa
open Go.RowKit

theorem beq_no {a b : Int} (h : ¬ a = b) : (a == b) = false := beq_eq_false_iff_ne.2 h
theorem beq_yes {a b : Int} (h : a = b) : (a == b) = true := beq_iff_eq.2 h

theorem bytes_eq {a b : ByteArray} (h : a.toList = b.toList) : a = b := by
  rw [Lib.toList_data, Lib.toList_data] at h
  exact Go.WideShapes.bytes_inj h

theorem index_lt (s : ByteArray) : Lib.indexByte s.data.toList 46 < (s.size : Int) + 1 := by
  by_cases h : 0 ≤ Lib.indexByte s.data.toList 46
  · obtain ⟨a, _⟩ := Lib.indexByte_some (l := s.data.toList) (c := 46) (o := (Lib.indexByte s.data.toList 46).toNat) (by omega)
    have : (Lib.indexByte s.data.toList 46).toNat < s.data.toList.length := by
      rcases Nat.lt_or_ge (Lib.indexByte s.data.toList 46).toNat s.data.toList.length with e | e
      · exact e
      · rw [List.getElem?_eq_none e] at a; cases a
    simp at this
    omega
  · omega

theorem parse_bd {s : List UInt8} {k : Nat} {v : Int} (h : parseS s k = (v, 0)) : -1152921504606846976 ≤ v ∧ v ≤ 1152921504606846976 := by
  unfold parseS at h
  cases hf : formS (unS s) k with
  | none => rw [hf] at h; simp at h
  | some ds =>
    rw [hf] at h
    simp only at h
    cases hv : valGo 0 ds with
    | none => rw [hv] at h; simp at h
    | some n =>
      have hb := valGo_bd ds 0 n (formS_dg _ _ _ hf) (by omega) (by omega) hv
      rw [hv] at h
      simp only [Prod.mk.injEq, and_true] at h
      split at h <;> omega

theorem fmt_size {n : Int} {k d : Nat} (hk : k ≤ 9) (h1 : -1152921504606846976 ≤ n) (h2 : n ≤ 1152921504606846976) (h : Ends n.natAbs k d) : (bytesOf (fmtS n k d)).size ≤ 21 := by
  have hd := ends_le (by omega) hk h
  have hb := body_len n.natAbs k d
  have : (bytesOf (fmtS n k d)).size = (fmtS n k d).length := by show (fmtS n k d).toArray.size = _; simp
  rw [this]
  by_cases hn : n < 0
  · rw [fmtS_neg hn, List.length_cons, hb]; split <;> omega
  · rw [fmtS_pos hn, hb]; split <;> omega

theorem back_bytes {T s : ByteArray} {k d : Nat} {v : Int} (hp : parseS s.data.toList k = (v, 0)) (full : k = 0 ∨ (0 ≤ Lib.indexByte s.data.toList 46 ∧ (s.size : Int) - Lib.indexByte s.data.toList 46 - 1 = k)) (hd : Ends v.natAbs k d) (hT : T = bytesOf (fmtS v k d)) :
    T.toList = s.toList ∨ (v = 0 ∧ T.toList ≠ s.toList ∧ ((⟨#[45]⟩ : ByteArray) ++ T).toList = s.toList) := by
  have hl : s.data.toList.length = s.size := by simp
  obtain ⟨d', hd', hor⟩ := back_text hp (by rw [hl]; exact full)
  obtain rfl := ends_one hd hd'
  have hTl : T.data.toList = fmtS v k d := by rw [hT]; simp [bytesOf]
  rw [Lib.toList_data, Lib.toList_data, Lib.toList_data, hTl]
  rcases hor with h | ⟨h0, h⟩
  · exact .inl h.symm
  · right
    refine ⟨h0, fun e => ?_, ?_⟩
    · rw [h] at e
      have := congrArg List.length e
      simp at this
    · rw [h]
      simp [hTl]

/-- The rounds of the division: what is left of a number with zeros behind it. -/
theorem tail_mod (n : Int) (p : Nat) : (n * ((10 ^ (p + 1) : Nat) : Int)).tmod 10 = 0 := by
  rw [Nat.pow_succ, Int.natCast_mul, ← Int.mul_assoc]
  exact Int.mul_tmod_left _ _
theorem tail_div (n : Int) (p : Nat) : (n * ((10 ^ (p + 1) : Nat) : Int)).tdiv 10 = n * ((10 ^ p : Nat) : Int) := by
  rw [Nat.pow_succ, Int.natCast_mul, ← Int.mul_assoc]
  exact Int.mul_tdiv_cancel _ (by decide)

theorem tdiv_bd {y : Int} (h1 : -1152921504606846976 ≤ y) (h2 : y ≤ 1152921504606846976) : -1152921504606846976 ≤ y.tdiv 10 ∧ y.tdiv 10 ≤ 1152921504606846976 := by
  have := Int.natAbs_tdiv_le_natAbs y 10
  omega

theorem tail_bd {n z : Int} {r : Nat} (hz : z = n * ((10 ^ r : Nat) : Int)) (h : n.natAbs * 10 ^ r ≤ 1152921504606846976) : -1152921504606846976 ≤ z ∧ z ≤ 1152921504606846976 := by
  have : z.natAbs = n.natAbs * 10 ^ r := by rw [hz, Int.natAbs_mul, Int.natAbs_natCast]
  omega

set_option maxRecDepth 100000 in
set_option maxHeartbeats 16000000 in
theorem back_walk0 (n : Int) (a b : Nat) (s : ByteArray) (ha : a ≤ 255) (hb : b ≤ 255) (w : World) :
    Calls Try.prog 8 #[.int .i64 n, .int .u8 (a : Int), .int .u8 (b : Int), .string s] w fun e w' => e = .returned (.bool true) ∧ Below w.heap.size w w' := by
  by_cases hs : s.size ≤ 100
  · have hsi : ¬ (100 : Int) < (s.size : Int) := by omega
    obtain ⟨k, hkk⟩ : ∃ k, k = a % 10 := ⟨_, rfl⟩
    have hk : k ≤ 9 := by omega
    have hki : (k : Int) ≤ 9 := by omega
    have Hkk := Lib.hid (show ((a : Int) % 10) = (k : Int) by omega)
    clear hkk
    by_cases hn : -1152921504606846976 ≤ n ∧ n ≤ 1152921504606846976
    · obtain ⟨hn1, hn2⟩ := hn
      go_enter Try.func8, Try.ntmps8
      go_wp2_with fail
      refine (awake_any _).mono ?_
      rintro e w1 ⟨rfl, hb1⟩
      have Hb1 := Lib.hid hb1
      clear hb1
      go_wp2_with fail
      rw [Hkk.out]
      refine (Format_ok n k _ hk hn1 hn2).mono ?_
      rintro e w2 ⟨d, hd, rfl, hb2⟩
      have Hb2 := Lib.hid (Hb1.out.trans (hb2.mono Hb1.out.size))
      clear hb2
      obtain ⟨X, hX⟩ : ∃ X, X = bytesOf (fmtS n k d) := ⟨_, rfl⟩
      rw [← hX]
      have hXs : X.size ≤ 21 := by rw [hX]; exact fmt_size hk hn1 hn2 hd
      have hXl : X.data.toList = fmtS n k d := by rw [hX]; simp [bytesOf]
      have HXl := Lib.hid hXl
      have Hd := Lib.hid hd
      clear hX hXl hd
      go_wp2_with fail
      refine (Parse_ok X k _ hk (by omega)).mono ?_
      rintro e w3 ⟨rfl, hb3⟩
      have Hb3 := Lib.hid (Hb2.out.trans (hb3.mono Hb2.out.size))
      clear hb3
      rw [show parseS X.data.toList k = (n, 0) from by
        rw [HXl.out, parse_fmt Hd.out (Nat.le_refl k), Nat.sub_self, if_pos (by simp; omega)]; simp]
      obtain ⟨r, hr⟩ : ∃ r, r = b % (10 - k) := ⟨_, rfl⟩
      have hrk : r ≤ 9 - k := by rw [hr]; have := Nat.mod_lt b (show 0 < 10 - k by omega); omega
      have hri : ((b : Int) % (10 - (k : Int))) = (r : Int) := by
        rw [hr, show (10 : Int) - (k : Int) = ((10 - k : Nat) : Int) from by omega, Int.natCast_emod]
      have hrt : ((b : Int).tmod (10 - (k : Int))) = (r : Int) := by
        rw [Int.tmod_eq_emod_of_nonneg (by omega)]; exact hri
      have Hri := Lib.hid hri
      have Hrt := Lib.hid hrt
      clear hr hri hrt
      have h10 : (0 : Int) < 10 - (k : Int) := by omega
      have hw1 : (k : Int) + (b : Int) % (10 - (k : Int)) ≤ 9 := by rw [Hri.out]; omega
      have hw2 : 0 ≤ (k : Int) + (b : Int) % (10 - (k : Int)) := by rw [Hri.out]; omega
      go_wp2_with fail
      obtain ⟨j, hj⟩ : ∃ j, j = k + r := ⟨_, rfl⟩
      rw [show (k : Int) + (b : Int) % (10 - (k : Int)) = (j : Int) from by rw [Hri.out]; omega]
      have hj9 : j ≤ 9 := by omega
      have hkj : (k : Int) ≤ (j : Int) := by omega
      have Hj := Lib.hid hj
      clear hw1 hw2 h10 hj
      refine (Parse_ok X j _ hj9 (by omega)).mono ?_
      rintro e w4 ⟨rfl, hb4⟩
      have HbY := Lib.hid (Hb3.out.trans (hb4.mono Hb3.out.size))
      clear hb4
      have hpar := parse_fmt (j := j) Hd.out (by have := Hj.out; omega)
      rw [← HXl.out, show j - k = r from by have := Hj.out; omega] at hpar
      by_cases hbig : n.natAbs * 10 ^ r ≤ 1152921504606846976
      · rw [if_pos hbig] at hpar
        rw [hpar]
        obtain ⟨z, hz⟩ : ∃ z, z = n * ((10 ^ r : Nat) : Int) := ⟨_, rfl⟩
        have hz1 : -1152921504606846976 ≤ z ∧ z ≤ 1152921504606846976 := tail_bd hz hbig
        rw [← hz]
        have Hz := Lib.hid hz
        clear hpar hz hbig
        go_wp2
        go_loop [15, 70] (fun u15 u70 => ∃ (i : Nat) (z : Int), u70 = .int .i64 i ∧ u15 = .int .i64 z ∧ i ≤ r ∧ -1152921504606846976 ≤ z ∧ z ≤ 1152921504606846976 ∧ z = n * ((10 ^ (r - i) : Nat) : Int)) (fun _ u70 => 20 - (intOf u70).toNat)
        case atStart => exact ⟨0, z, rfl, rfl, Nat.zero_le _, hz1.1, hz1.2, Hz.out⟩
        case round =>
          obtain ⟨i, y, rfl, rfl, hi, hy1, hy2, hy⟩ := hrel
          by_cases hir : i < r
          · have hii : (i : Int) < (j : Int) - (k : Int) := by have := Hj.out; omega
            obtain ⟨q, hq⟩ : ∃ q, r - i = q + 1 := ⟨r - i - 1, by omega⟩
            rw [hq] at hy
            have hm : (y.tmod 10 != 0) = false := by rw [hy, tail_mod]; rfl
            have hdv := tail_div n q
            rw [← hy] at hdv
            have Hdv := Lib.hid hdv
            have hyb := tdiv_bd (y := y) hy1 hy2
            have hyb1 := hyb.1
            have hyb2 := hyb.2
            clear hyb
            have Hq := Lib.hid hq
            clear hy hdv hq
            go_wp2
            go_round
            case rel => exact ⟨i + 1, y.tdiv 10, by go_num, rfl, by omega, hyb1, hyb2, by rw [Hdv.out, show r - (i + 1) = q from by have := Hq.out; omega]⟩
            case measure => simp [intOf]; omega
          · have hii : ¬ (i : Int) < (j : Int) - (k : Int) := by have := Hj.out; omega
            have hyn : y = n := by rw [hy, show r - i = 0 from by omega]; simp
            subst hyn
            clear hy hir
            go_wp2_with fail
            refine (Parse_ok s k _ hk (by omega)).mono ?_
            rintro e wp ⟨rfl, hbp⟩
            have HbP := Lib.hid (HbY.out.trans (hbp.mono HbY.out.size))
            clear hbp
            obtain ⟨R, hR⟩ : ∃ R, R = parseS s.data.toList k := ⟨_, rfl⟩
            rw [← hR]
            obtain ⟨v, er⟩ := R
            have HR := Lib.hid hR
            clear hR
            by_cases her : er = 0
            · have heb : (er != 0) = false := by rw [her]; rfl
              have hbd := parse_bd (s := s.data.toList) (k := k) (v := v) (by rw [← HR.out, her])
              have hv1 := hbd.1
              have hv2 := hbd.2
              have her0 := Lib.hid her
              clear her hbd
              go_wp2_with fail
              refine (Format_ok v k _ hk hv1 hv2).mono ?_
              rintro e wq ⟨d, hd, rfl, hbq⟩
              have HbZ := Lib.hid (HbP.out.trans (hbq.mono HbP.out.size))
              clear hbq
              obtain ⟨T, hT⟩ : ∃ T, T = bytesOf (fmtS v k d) := ⟨_, rfl⟩
              rw [← hT]
              have hTs : T.size ≤ 21 := by rw [hT]; exact fmt_size hk hv1 hv2 hd
              have HT := Lib.hid hT
              have Hd := Lib.hid hd
              clear hT hd
              go_wp2_with fail
              refine (Try.strings_IndexByte s 46 _).mono ?_
              rintro e wi ⟨rfl, rfl⟩
              rw [show (46 : Int).toNat.toUInt8 = 46 from rfl]
              obtain ⟨p, hp⟩ : ∃ p, p = Lib.indexByte s.data.toList 46 := ⟨_, rfl⟩
              have hp1 : -1 ≤ p := by rw [hp]; exact Lib.indexByte_ge _ _
              have hp2 : p < (s.size : Int) + 1 := by rw [hp]; exact index_lt s
              rw [← hp]
              have Hback := Lib.hid (fun (full : k = 0 ∨ (0 ≤ p ∧ (s.size : Int) - p - 1 = k)) => back_bytes (T := T) (s := s) (k := k) (v := v) (by rw [← HR.out, her0.out]) (by rw [← hp]; exact full) Hd.out HT.out)
              clear hp
              by_cases hk0 : k = 0
              · have hkb : ((k : Int) == 0) = true := beq_yes (by omega)
                have hres := Hback.out (.inl hk0)
                clear hk0
                rcases hres with hres | ⟨hz, hne, hres⟩
                · have heq : (T.toList == s.toList) = true := beq_iff_eq.2 hres
                  clear hres
                  go_wp2_with fail
                  go_ret
                  exact ⟨rfl, HbZ.out⟩
                · have heq : (T.toList == s.toList) = false := beq_eq_false_iff_ne.2 hne
                  have hvb : (v == 0) = true := beq_yes hz
                  have h1 : (⟨#[45]⟩ : ByteArray).size + T.size ≤ 22 := by show 1 + T.size ≤ 22; omega
                  have heq2 : (((⟨#[45]⟩ : ByteArray) ++ T).toList == s.toList) = true := beq_iff_eq.2 hres
                  clear hres hne hz
                  go_wp2_with fail
                  go_ret
                  exact ⟨rfl, HbZ.out⟩
              · have hkb : ((k : Int) == 0) = false := beq_no (by omega)
                by_cases hp0 : 0 ≤ p
                · by_cases hpk : (s.size : Int) - p - 1 = k
                  · have hpb : ((s.size : Int) - p - 1 == (k : Int)) = true := beq_yes hpk
                    have hres := Hback.out (.inr ⟨hp0, hpk⟩)
                    clear hk0 hpk
                    rcases hres with hres | ⟨hz, hne, hres⟩
                    · have heq : (T.toList == s.toList) = true := beq_iff_eq.2 hres
                      clear hres
                      go_wp2_with fail
                      go_ret
                      exact ⟨rfl, HbZ.out⟩
                    · have heq : (T.toList == s.toList) = false := beq_eq_false_iff_ne.2 hne
                      have hvb : (v == 0) = true := beq_yes hz
                      have h1 : (⟨#[45]⟩ : ByteArray).size + T.size ≤ 22 := by show 1 + T.size ≤ 22; omega
                      have heq2 : (((⟨#[45]⟩ : ByteArray) ++ T).toList == s.toList) = true := beq_iff_eq.2 hres
                      clear hres hne hz
                      go_wp2_with fail
                      go_ret
                      exact ⟨rfl, HbZ.out⟩
                  · have hpb : ((s.size : Int) - p - 1 == (k : Int)) = false := beq_no hpk
                    clear hk0 hpk
                    go_wp2_with fail
                    go_ret
                    exact ⟨rfl, HbZ.out⟩
                · clear hk0
                  go_wp2_with fail
                  go_ret
                  exact ⟨rfl, HbZ.out⟩
            · have heb : (er != 0) = true := bne_iff_ne.2 her
              have hv0 : v = 0 := by
                have := parse_err (s := s.data.toList) (k := k)
                rw [← HR.out] at this
                exact this her
              have hvb : (v == 0) = true := beq_yes hv0
              clear her hv0
              go_wp2_with fail
              go_ret
              exact ⟨rfl, HbP.out⟩
      · rw [if_neg hbig] at hpar
        rw [hpar]
        clear hpar hbig
        go_wp2_with fail
        refine (Parse_ok s k _ hk (by omega)).mono ?_
        rintro e wp ⟨rfl, hbp⟩
        have HbP := Lib.hid (HbY.out.trans (hbp.mono HbY.out.size))
        clear hbp
        obtain ⟨R, hR⟩ : ∃ R, R = parseS s.data.toList k := ⟨_, rfl⟩
        rw [← hR]
        obtain ⟨v, er⟩ := R
        have HR := Lib.hid hR
        clear hR
        by_cases her : er = 0
        · have heb : (er != 0) = false := by rw [her]; rfl
          have hbd := parse_bd (s := s.data.toList) (k := k) (v := v) (by rw [← HR.out, her])
          have hv1 := hbd.1
          have hv2 := hbd.2
          have her0 := Lib.hid her
          clear her hbd
          go_wp2_with fail
          refine (Format_ok v k _ hk hv1 hv2).mono ?_
          rintro e wq ⟨d, hd, rfl, hbq⟩
          have HbZ := Lib.hid (HbP.out.trans (hbq.mono HbP.out.size))
          clear hbq
          obtain ⟨T, hT⟩ : ∃ T, T = bytesOf (fmtS v k d) := ⟨_, rfl⟩
          rw [← hT]
          have hTs : T.size ≤ 21 := by rw [hT]; exact fmt_size hk hv1 hv2 hd
          have HT := Lib.hid hT
          have Hd := Lib.hid hd
          clear hT hd
          go_wp2_with fail
          refine (Try.strings_IndexByte s 46 _).mono ?_
          rintro e wi ⟨rfl, rfl⟩
          rw [show (46 : Int).toNat.toUInt8 = 46 from rfl]
          obtain ⟨p, hp⟩ : ∃ p, p = Lib.indexByte s.data.toList 46 := ⟨_, rfl⟩
          have hp1 : -1 ≤ p := by rw [hp]; exact Lib.indexByte_ge _ _
          have hp2 : p < (s.size : Int) + 1 := by rw [hp]; exact index_lt s
          rw [← hp]
          have Hback := Lib.hid (fun (full : k = 0 ∨ (0 ≤ p ∧ (s.size : Int) - p - 1 = k)) => back_bytes (T := T) (s := s) (k := k) (v := v) (by rw [← HR.out, her0.out]) (by rw [← hp]; exact full) Hd.out HT.out)
          clear hp
          by_cases hk0 : k = 0
          · have hkb : ((k : Int) == 0) = true := beq_yes (by omega)
            have hres := Hback.out (.inl hk0)
            clear hk0
            rcases hres with hres | ⟨hz, hne, hres⟩
            · have heq : (T.toList == s.toList) = true := beq_iff_eq.2 hres
              clear hres
              go_wp2_with fail
              go_ret
              exact ⟨rfl, HbZ.out⟩
            · have heq : (T.toList == s.toList) = false := beq_eq_false_iff_ne.2 hne
              have hvb : (v == 0) = true := beq_yes hz
              have h1 : (⟨#[45]⟩ : ByteArray).size + T.size ≤ 22 := by show 1 + T.size ≤ 22; omega
              have heq2 : (((⟨#[45]⟩ : ByteArray) ++ T).toList == s.toList) = true := beq_iff_eq.2 hres
              clear hres hne hz
              go_wp2_with fail
              go_ret
              exact ⟨rfl, HbZ.out⟩
          · have hkb : ((k : Int) == 0) = false := beq_no (by omega)
            by_cases hp0 : 0 ≤ p
            · by_cases hpk : (s.size : Int) - p - 1 = k
              · have hpb : ((s.size : Int) - p - 1 == (k : Int)) = true := beq_yes hpk
                have hres := Hback.out (.inr ⟨hp0, hpk⟩)
                clear hk0 hpk
                rcases hres with hres | ⟨hz, hne, hres⟩
                · have heq : (T.toList == s.toList) = true := beq_iff_eq.2 hres
                  clear hres
                  go_wp2_with fail
                  go_ret
                  exact ⟨rfl, HbZ.out⟩
                · have heq : (T.toList == s.toList) = false := beq_eq_false_iff_ne.2 hne
                  have hvb : (v == 0) = true := beq_yes hz
                  have h1 : (⟨#[45]⟩ : ByteArray).size + T.size ≤ 22 := by show 1 + T.size ≤ 22; omega
                  have heq2 : (((⟨#[45]⟩ : ByteArray) ++ T).toList == s.toList) = true := beq_iff_eq.2 hres
                  clear hres hne hz
                  go_wp2_with fail
                  go_ret
                  exact ⟨rfl, HbZ.out⟩
              · have hpb : ((s.size : Int) - p - 1 == (k : Int)) = false := beq_no hpk
                clear hk0 hpk
                go_wp2_with fail
                go_ret
                exact ⟨rfl, HbZ.out⟩
            · clear hk0
              go_wp2_with fail
              go_ret
              exact ⟨rfl, HbZ.out⟩
        · have heb : (er != 0) = true := bne_iff_ne.2 her
          have hv0 : v = 0 := by
            have := parse_err (s := s.data.toList) (k := k)
            rw [← HR.out] at this
            exact this her
          have hvb : (v == 0) = true := beq_yes hv0
          clear her hv0
          go_wp2_with fail
          go_ret
          exact ⟨rfl, HbP.out⟩
    · have Hn := Lib.hid (numB_no hn)
      have Hk := Lib.hid (cntB_yes (d := (k : Int)) ⟨by omega, hki⟩)
      clear hn
      go_enter Try.func8, Try.ntmps8
      go_wp2_with fail
      refine (awake_any _).mono ?_
      rintro e w1 ⟨rfl, hb1⟩
      have HbY := Lib.hid hb1
      clear hb1
      go_wp2_with fail
      rw [Hkk.out]
      refine (Format_big n k _ Hk.out Hn.out).mono ?_
      rintro e w2 ⟨rfl, rfl⟩
      go_wp2_with fail
      refine (Parse_ok s k _ hk (by omega)).mono ?_
      rintro e wp ⟨rfl, hbp⟩
      have HbP := Lib.hid (HbY.out.trans (hbp.mono HbY.out.size))
      clear hbp
      obtain ⟨R, hR⟩ : ∃ R, R = parseS s.data.toList k := ⟨_, rfl⟩
      rw [← hR]
      obtain ⟨v, er⟩ := R
      have HR := Lib.hid hR
      clear hR
      by_cases her : er = 0
      · have heb : (er != 0) = false := by rw [her]; rfl
        have hbd := parse_bd (s := s.data.toList) (k := k) (v := v) (by rw [← HR.out, her])
        have hv1 := hbd.1
        have hv2 := hbd.2
        have her0 := Lib.hid her
        clear her hbd
        go_wp2_with fail
        refine (Format_ok v k _ hk hv1 hv2).mono ?_
        rintro e wq ⟨d, hd, rfl, hbq⟩
        have HbZ := Lib.hid (HbP.out.trans (hbq.mono HbP.out.size))
        clear hbq
        obtain ⟨T, hT⟩ : ∃ T, T = bytesOf (fmtS v k d) := ⟨_, rfl⟩
        rw [← hT]
        have hTs : T.size ≤ 21 := by rw [hT]; exact fmt_size hk hv1 hv2 hd
        have HT := Lib.hid hT
        have Hd := Lib.hid hd
        clear hT hd
        go_wp2_with fail
        refine (Try.strings_IndexByte s 46 _).mono ?_
        rintro e wi ⟨rfl, rfl⟩
        rw [show (46 : Int).toNat.toUInt8 = 46 from rfl]
        obtain ⟨p, hp⟩ : ∃ p, p = Lib.indexByte s.data.toList 46 := ⟨_, rfl⟩
        have hp1 : -1 ≤ p := by rw [hp]; exact Lib.indexByte_ge _ _
        have hp2 : p < (s.size : Int) + 1 := by rw [hp]; exact index_lt s
        rw [← hp]
        have Hback := Lib.hid (fun (full : k = 0 ∨ (0 ≤ p ∧ (s.size : Int) - p - 1 = k)) => back_bytes (T := T) (s := s) (k := k) (v := v) (by rw [← HR.out, her0.out]) (by rw [← hp]; exact full) Hd.out HT.out)
        clear hp
        by_cases hk0 : k = 0
        · have hkb : ((k : Int) == 0) = true := beq_yes (by omega)
          have hres := Hback.out (.inl hk0)
          clear hk0
          rcases hres with hres | ⟨hz, hne, hres⟩
          · have heq : (T.toList == s.toList) = true := beq_iff_eq.2 hres
            clear hres
            go_wp2_with fail
            go_ret
            exact ⟨rfl, HbZ.out⟩
          · have heq : (T.toList == s.toList) = false := beq_eq_false_iff_ne.2 hne
            have hvb : (v == 0) = true := beq_yes hz
            have h1 : (⟨#[45]⟩ : ByteArray).size + T.size ≤ 22 := by show 1 + T.size ≤ 22; omega
            have heq2 : (((⟨#[45]⟩ : ByteArray) ++ T).toList == s.toList) = true := beq_iff_eq.2 hres
            clear hres hne hz
            go_wp2_with fail
            go_ret
            exact ⟨rfl, HbZ.out⟩
        · have hkb : ((k : Int) == 0) = false := beq_no (by omega)
          by_cases hp0 : 0 ≤ p
          · by_cases hpk : (s.size : Int) - p - 1 = k
            · have hpb : ((s.size : Int) - p - 1 == (k : Int)) = true := beq_yes hpk
              have hres := Hback.out (.inr ⟨hp0, hpk⟩)
              clear hk0 hpk
              rcases hres with hres | ⟨hz, hne, hres⟩
              · have heq : (T.toList == s.toList) = true := beq_iff_eq.2 hres
                clear hres
                go_wp2_with fail
                go_ret
                exact ⟨rfl, HbZ.out⟩
              · have heq : (T.toList == s.toList) = false := beq_eq_false_iff_ne.2 hne
                have hvb : (v == 0) = true := beq_yes hz
                have h1 : (⟨#[45]⟩ : ByteArray).size + T.size ≤ 22 := by show 1 + T.size ≤ 22; omega
                have heq2 : (((⟨#[45]⟩ : ByteArray) ++ T).toList == s.toList) = true := beq_iff_eq.2 hres
                clear hres hne hz
                go_wp2_with fail
                go_ret
                exact ⟨rfl, HbZ.out⟩
            · have hpb : ((s.size : Int) - p - 1 == (k : Int)) = false := beq_no hpk
              clear hk0 hpk
              go_wp2_with fail
              go_ret
              exact ⟨rfl, HbZ.out⟩
          · clear hk0
            go_wp2_with fail
            go_ret
            exact ⟨rfl, HbZ.out⟩
      · have heb : (er != 0) = true := bne_iff_ne.2 her
        have hv0 : v = 0 := by
          have := parse_err (s := s.data.toList) (k := k)
          rw [← HR.out] at this
          exact this her
        have hvb : (v == 0) = true := beq_yes hv0
        clear her hv0
        go_wp2_with fail
        go_ret
        exact ⟨rfl, HbP.out⟩
  · have hsi : (100 : Int) < (s.size : Int) := by omega
    go_enter Try.func8, Try.ntmps8
    go_wp2_with fail
    refine (awake_any _).mono ?_
    rintro e w1 ⟨rfl, hb1⟩
    have Hb1 := Lib.hid hb1
    clear hb1
    go_wp2_with fail
    go_ret
    exact ⟨rfl, Hb1.out⟩

theorem back_walk (n a b : Int) (s : ByteArray) (ha : 0 ≤ a ∧ a ≤ 255) (hb : 0 ≤ b ∧ b ≤ 255) (_ : s.size ≤ maxLen) (w : World) :
    Calls Try.prog 8 #[.int .i64 n, .int .u8 a, .int .u8 b, .string s] w fun e w' => e = .returned (.bool true) ∧ Below w.heap.size w w' := by
  obtain ⟨a, rfl⟩ := Int.eq_ofNat_of_zero_le ha.1
  obtain ⟨b, rfl⟩ := Int.eq_ofNat_of_zero_le hb.1
  exact back_walk0 n a b s (by omega) (by omega) w

end Go.Proofs.Ytbpcfgeefelfdaa
