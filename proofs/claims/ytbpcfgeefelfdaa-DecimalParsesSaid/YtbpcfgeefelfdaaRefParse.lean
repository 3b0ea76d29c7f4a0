/- The walk of the reference's Parse. -/
import Derived.Test.YtbpcfgeefelfdaaParse3
import Derived.Deep.CutRange
namespace Go.Proofs.Ytbpcfgeefelfdaa
open Go.RowKit

def strSz2 : Value → Nat
  | .string t => t.size
  | _ => 0

theorem part_ok {P : ByteArray} {k : Nat} (h0 : ¬ P.size = 0) (hd : pre dg P.data.toList = P.data.toList.length) (hk : P.size ≤ k) : partB P.data.toList k = true := by
  have hl : P.data.toList.length = P.size := by simp
  have hne : P.data.toList ≠ [] := fun e => h0 (str_nil e)
  unfold partB
  rw [(dsB_iff _).2 ⟨hne, hd⟩, hl]
  simpa using hk

theorem part_all {P : ByteArray} {k : Nat} (h : partB P.data.toList k = true) : pre dg P.data.toList = P.data.toList.length := by
  unfold partB at h
  simp only [Bool.and_eq_true] at h
  exact ((dsB_iff _).1 h.1).2

theorem form_bad {u : List UInt8} {k : Nat} (hne : ¬ pre dg u = u.length) (h : ¬ u[pre dg u]? = some 46) : formS u k = none := by
  unfold formS
  by_cases h0 : pre dg u = 0 ∨ (1 < pre dg u ∧ u.head? = some 48)
  · rw [if_pos h0]
  · rw [if_neg h0, if_neg hne, if_neg (fun x => h x.1)]

def outS (o : Option (List UInt8)) (neg : Bool) : Int × Int :=
  match o with
  | none => (0, 7)
  | some ds => match valGo 0 ds with
    | none => (0, 5)
    | some n => (if neg then -n else n, 0)

theorem pad_step {T P : ByteArray} (h : T.data.toList = P.data.toList ++ List.replicate (T.size - P.size) 48) (hl : P.size ≤ T.size) :
    (T ++ (⟨#[48]⟩ : ByteArray)).data.toList = P.data.toList ++ List.replicate ((T ++ (⟨#[48]⟩ : ByteArray)).size - P.size) 48 := by
  have e : (T ++ (⟨#[48]⟩ : ByteArray)).size - P.size = (T.size - P.size) + 1 := by
    rw [ByteArray.size_append]; show T.size + 1 - P.size = _; omega
  rw [e, List.replicate_succ']
  simp [h]

theorem form_no {u : List UInt8} {k : Nat} (h : pre dg u = 0 ∨ (1 < pre dg u ∧ u.head? = some 48)) : formS u k = none := by
  unfold formS; rw [if_pos h]

theorem head_take {W : ByteArray} {u : List UInt8} (h : W.data.toList = u.take (pre dg u)) (h0 : 0 < W.size) : W.data.toList.head? = u.head? := by
  have hp : 0 < pre dg u := by
    have : W.data.toList.length ≤ pre dg u := by rw [h, List.length_take]; omega
    simp at this
    omega
  rw [h, List.head?_eq_getElem?, List.head?_eq_getElem?, List.getElem?_take_of_lt hp]

theorem head_of {W : ByteArray} {u : List UInt8} (h : W.data.toList = u.take (pre dg u)) (h0 : 0 < W.size) (h48 : W.data.toList.head? = some 48) : u.head? = some 48 := by
  rw [← head_take h h0, h48]

theorem form_ok {W : ByteArray} {u : List UInt8} (h : W.data.toList = u.take (pre dg u)) (hs : W.size = pre dg u) (h0 : 0 < W.size) (hz : ¬ (1 < W.size ∧ W.data.toList.head? = some 48)) : ¬ (pre dg u = 0 ∨ (1 < pre dg u ∧ u.head? = some 48)) := by
  rintro (e | ⟨e1, e2⟩)
  · omega
  · rw [← head_take h h0] at e2
    exact hz ⟨by omega, e2⟩

def headOk (W : ByteArray) : Prop := ¬ W.size = 0 ∧ ¬ (1 < W.size ∧ W.data.toList.head? = some 48)
instance (W : ByteArray) : Decidable (headOk W) := by unfold headOk; infer_instance

theorem form_part {W P : ByteArray} {u : List UInt8} {k : Nat} (h : W.data.toList = u.take (pre dg u)) (hne : ¬ pre dg u = u.length) (h46 : u[pre dg u]? = some 46) (hP : P.data.toList = u.drop (pre dg u + 1)) :
    formS u k = if headOk W ∧ partB P.data.toList k = true then some (W.data.toList ++ P.data.toList ++ List.replicate (k - P.size) 48) else none := by
  have hs : W.size = pre dg u := by
    have h1 : W.data.toList.length = pre dg u := by rw [h, List.length_take]; have := pre_le dg u; omega
    simpa using h1
  unfold formS
  by_cases hh : headOk W
  · have h1 := form_ok h hs (Nat.pos_of_ne_zero hh.1) hh.2
    rw [if_neg h1, if_neg hne, ← hP, ← h]
    by_cases hp : partB P.data.toList k = true
    · rw [if_pos ⟨h46, hp⟩, if_pos ⟨hh, hp⟩]
      simp
    · rw [if_neg (fun h => hp h.2), if_neg (fun h => hp h.2)]
  · have h2 : (if headOk W ∧ partB P.data.toList k = true then some (W.data.toList ++ P.data.toList ++ List.replicate (k - P.size) 48) else none) = none := if_neg (fun h => hh h.1)
    rw [h2]
    refine if_pos ?_
    unfold headOk at hh
    by_cases h0 : W.size = 0
    · exact .inl (by omega)
    · right
      have : 1 < W.size ∧ W.data.toList.head? = some 48 := Classical.byContradiction (fun hc => hh ⟨h0, hc⟩)
      exact ⟨by omega, by rw [← head_take h (Nat.pos_of_ne_zero h0)]; exact this.2⟩

theorem part_size {P : ByteArray} {k : Nat} (h : partB P.data.toList k = true) : 0 < P.size ∧ P.size ≤ k := by
  unfold partB dsB at h
  simp at h
  have : P.size ≠ 0 := fun e => h.1.1 (by
    have : P.data.size = 0 := e
    exact Array.eq_empty_of_size_eq_zero this)
  have h2 : P.data.size ≤ k := h.2
  exact ⟨Nat.pos_of_ne_zero this, h2⟩

theorem form_end {W P : ByteArray} {u : List UInt8} {k : Nat} (h : W.data.toList = u.take (pre dg u)) (hs : W.size = pre dg u) (h0 : 0 < W.size) (hz : ¬ (1 < W.size ∧ W.data.toList.head? = some 48)) (he : pre dg u = u.length) (hP : P = ⟨#[]⟩) :
    formS u k = some (W.data.toList ++ P.data.toList ++ List.replicate (k - P.size) 48) := by
  unfold formS
  rw [if_neg (form_ok h hs h0 hz), if_pos he, h, he, hP]
  show some (u ++ List.replicate k 48) = some (u.take u.length ++ [] ++ List.replicate (k - 0) 48)
  simp


set_option maxRecDepth 100000 in
set_option maxHeartbeats 8000000 in
theorem refParse_0 (s : ByteArray) (k : Nat) (w : World) (hk : k ≤ 9) (hs : s.size ≤ 100) (hpos : 0 < s.size) (hb : ((s[0].toNat : Int) == 45) = false) :
    Calls Try.prog 15 #[.string s, .int .i64 k] w fun e w' => e = .returned (.tuple #[.int .i64 (outS (formS (s.data.toList.drop 0) k) false).1, .int .i64 (outS (formS (s.data.toList.drop 0) k) false).2]) ∧ w = w' := by
  have hp : (0 : Int) < (s.size : Int) := by omega
  obtain ⟨u, hu⟩ : ∃ u, u = s.data.toList.drop 0 := ⟨_, rfl⟩
  have hul : u.length = s.size - 0 := by rw [hu]; simp
  have hale := pre_le dg u
  obtain ⟨z, hz⟩ : ∃ z, z = 0 + pre dg u := ⟨_, rfl⟩
  have hzs : z ≤ s.size := by omega
  have hget : ∀ i, 0 ≤ i → (h : i < s.size) → u[i - 0]? = some s[i] := fun i h1 h => by
    rw [hu, List.getElem?_drop, show 0 + (i - 0) = i from by omega]; exact get_byte s i h
  have hin : ∀ i, 0 ≤ i → i < z → (h : i < s.size) → digB (s[i].toNat : Int) = true := fun i h1 h2 h => pre_yes dg u (i - 0) (by omega) _ (hget i h1 h)
  have hout : (h : z < s.size) → digB (s[z].toNat : Int) = false := fun h => pre_no dg u _ (by rw [show pre dg u = z - 0 from by omega]; exact hget z (by omega) h)
  obtain ⟨W, hW⟩ : ∃ W, W = s.extract 0 z := ⟨_, rfl⟩
  have hWl : W.data.toList = u.take (pre dg u) := by
    rw [hW, Lib.extract_data, hu, show z - 0 = pre dg u from by omega, hu]
  have hWs : W.size = pre dg u := by
    have : W.data.toList.length = pre dg u := by rw [hWl, List.length_take]; omega
    simpa using this
  rw [← hu]
  have Hin := Lib.hid hin
  have Hout := Lib.hid hout
  have HWl := Lib.hid hWl
  have HWs := Lib.hid hWs
  have HW := Lib.hid hW
  have Hz := Lib.hid hz
  have Hu := Lib.hid hu
  have Hul := Lib.hid hul
  have Hget := Lib.hid hget
  have hWsm : W.size ≤ 100 := by omega
  have hFz : 0 ≤ z := by omega
  clear hin hout hWl hWs hW hz hu hul hget hale
  go_enter Try.func15, Try.ntmps15
  go_wp2
  go_loop [6] (fun i => ∃ j : Nat, i = .int .i64 j ∧ 0 ≤ j ∧ j ≤ z) (fun i => 200 - (intOf i).toNat)
  case atStart => exact ⟨0, rfl, by omega, hFz⟩
  case round =>
    obtain ⟨j, rfl, hj1, hj2⟩ := hrel
    by_cases hjz : j < z
    · have hd := Hin.out j hj1 hjz (by omega)
      have hjs : (j : Int) < (s.size : Int) := by omega
      have Hd := Lib.hid hd
      clear hd
      go_wp2_with (go_at_call 34; refine ((refDigit_any _ _).mono ?_); rintro e w' ⟨rfl, rfl⟩; rw [Hd.out])
      go_round
      case rel => exact ⟨j + 1, by go_num, by omega, by omega⟩
      case measure => simp [intOf]; omega
    · obtain rfl : j = z := by omega
      by_cases hend : j = s.size
      · have hjs : ¬ (j : Int) < (s.size : Int) := by omega
        obtain ⟨P, hP⟩ : ∃ P : ByteArray, P = ⟨#[]⟩ := ⟨_, rfl⟩
        have hPs : P.size = 0 := by rw [hP]; rfl
        have hPk : P.size ≤ k := by omega
        have hPb : ¬ (0 : Int) < (P.size : Int) := by omega
        have Hform0 := Lib.hid (fun h => form_no (u := u) (k := k) (.inl (by rw [← HWs.out]; exact h)))
        have Hform1 := Lib.hid (fun (h0 : 0 < W.size) (h : 1 < W.size ∧ W.data.toList.head? = some 48) => form_no (u := u) (k := k) (.inr ⟨by rw [← HWs.out]; exact h.1, head_of HWl.out h0 h.2⟩))
        have Hform2 := Lib.hid (fun (h0 : 0 < W.size) (h : ¬ (1 < W.size ∧ W.data.toList.head? = some 48)) => form_end (u := u) (k := k) (P := P) HWl.out HWs.out h0 h (by have := Hul.out; have := Hz.out; omega) hP)
        have HP := Lib.hid hP
        have HPs := Lib.hid hPs
        have Hend := Lib.hid hend
        clear hP hPs hend
        go_wp2
        rw [← HW.out, ← HP.out]
        go_loop [11] (fun i => i = .int .i64 0) (fun _ => 0)
        case atStart => rfl
        case round =>
          subst hrel
          by_cases hw0 : W.size = 0
          · have HF := Lib.hid (Hform0.out hw0)
            have hwb : ((W.size : Int) == 0) = true := beq_iff_eq.2 (by omega)
            clear hw0
            go_wp2
            go_ret2
            exact ⟨by rw [HF.out]; rfl, rfl⟩
          · have hwb : ((W.size : Int) == 0) = false := beq_eq_false_iff_ne.2 (by omega)
            have hwp : (0 : Int) < (W.size : Int) := by omega
            have hw1 : 0 < W.size := by omega
            have hwe : ¬ W = ByteArray.empty := fun h => hw0 (by rw [h]; rfl)
            have hh := get_byte W 0 hw1
            have hg : W.data.toList.head? = some W[0] := by rw [List.head?_eq_getElem?, hh]
            by_cases hz : 1 < W.size ∧ W.data.toList.head? = some 48
            · have HF := Lib.hid (Hform1.out (by omega) hz)
              have h1 : (1 : Int) < (W.size : Int) := by omega
              have h48 : ((W[0].toNat : Int) == 48) = true := beq_iff_eq.2 ((byte_48 _).1 (by have := hz.2; rw [hg] at this; injection this))
              clear hz hw0 hh hg
              go_wp2
              go_ret2
              exact ⟨by rw [HF.out]; rfl, rfl⟩
            · have HF := Lib.hid (Hform2.out (by omega) hz)
              have hz' : ¬ (1 : Int) < (W.size : Int) ∨ ((1 : Int) < (W.size : Int) ∧ ((W[0].toNat : Int) == 48) = false) := by
                by_cases h1 : 1 < W.size
                · exact .inr ⟨by omega, beq_eq_false_iff_ne.2 (fun h => hz ⟨h1, by rw [hg, (byte_48 _).2 h]⟩)⟩
                · exact .inl (by omega)
              clear hz hw0 hh hg
              rcases hz' with h1 | ⟨h1, h2⟩
              all_goals
                go_wp2
                go_loop [10] (fun p => ∃ T : ByteArray, p = .string T ∧ T.data.toList = P.data.toList ++ List.replicate (T.size - P.size) 48 ∧ P.size ≤ T.size ∧ T.size ≤ k) (fun p => 20 - strSz2 p)
                case atStart => exact ⟨P, rfl, by simp, Nat.le_refl _, hPk⟩
                case round =>
                  obtain ⟨T, rfl, hT, hT1, hT2⟩ := hrel
                  by_cases hlt : T.size < k
                  · have HT := Lib.hid hT
                    clear hT
                    have hlt' : (T.size : Int) < (k : Int) := by omega
                    have hsmall : T.size + (⟨#[48]⟩ : ByteArray).size ≤ 20 := by show T.size + 1 ≤ 20; omega
                    go_wp2
                    go_round
                    case rel => exact ⟨_, rfl, pad_step HT.out hT1, by rw [ByteArray.size_append]; omega, by rw [ByteArray.size_append]; show T.size + 1 ≤ k; omega⟩
                    case measure => show 20 - (T ++ (⟨#[48]⟩ : ByteArray)).size < 20 - T.size; rw [ByteArray.size_append]; show 20 - (T.size + 1) < 20 - T.size; omega
                  · have hTk : T.size = k := by omega
                    have hlt' : ¬ (T.size : Int) < (k : Int) := by omega
                    obtain ⟨D, hD⟩ : ∃ D, D = W ++ T := ⟨_, rfl⟩
                    have hDl : D.data.toList = W.data.toList ++ P.data.toList ++ List.replicate (k - P.size) 48 := by rw [hD, ← hTk]; simp [hT]
                    have hOK : formS u k = some D.data.toList := by rw [hDl]; exact HF.out
                    have HDd := Lib.hid (formS_dg u k _ hOK)
                    have HOK := Lib.hid hOK
                    have hDs : D.size ≤ 200 := by rw [hD, ByteArray.size_append]; omega
                    have hWT : W.size + T.size ≤ 200 := by omega
                    have HD := Lib.hid hD
                    clear hT hTk hDl hOK hD
                    go_wp2
                    rw [← HD.out]
                    go_loop [13, 14, 15] (fun n i _ => ∃ (j : Nat) (m : Int), j ≤ D.size ∧ i = .int .i64 j ∧ n = .int .i64 m ∧ 0 ≤ m ∧ m ≤ 1152921504606846976 ∧ valGo 0 D.data.toList = valGo m (D.data.toList.drop j)) (fun _ i _ => D.size - (intOf i).toNat)
                    case atStart => exact ⟨0, 0, Nat.zero_le _, rfl, rfl, by omega, by omega, rfl⟩
                    case round =>
                      obtain ⟨j, m, hj, rfl, rfl, hm0, hm1, hv⟩ := hrel
                      by_cases hlt : j < D.size
                      · have hdg := HDd.out D[j] (List.mem_of_getElem? (get_byte D j hlt))
                        have hd1 : (48 : Int) ≤ (D[j].toNat : Int) := by unfold dg digB at hdg; simp at hdg; omega
                        have hd2 : (D[j].toNat : Int) ≤ 57 := by unfold dg digB at hdg; simp at hdg; omega
                        rw [drop_cons D j hlt] at hv
                        by_cases hbig : (1152921504606846976 - ((D[j].toNat : Int) - 48)) / 10 < m
                        · rw [val_no hbig] at hv
                          have Hv := Lib.hid hv
                          clear hv hdg
                          go_wp2
                          go_ret2
                          exact ⟨by rw [HOK.out]; simp only [outS, Hv.out]; rfl, rfl⟩
                        · rw [val_yes hbig] at hv
                          have Hv := Lib.hid hv
                          clear hv hdg
                          go_wp2
                          go_round
                          case rel => exact ⟨j + 1, _, by omega, by go_num, rfl, by omega, by omega, Hv.out⟩
                          case measure => simp [intOf]; omega
                      · rw [List.drop_eq_nil_of_le (by simp; omega)] at hv
                        have Hv := Lib.hid hv
                        clear hv
                        go_wp2
                        go_ret2
                        exact ⟨by rw [HOK.out]; simp only [outS, Hv.out]; rfl, rfl⟩
      · have hlt : j < s.size := by omega
        have hjs : (j : Int) < (s.size : Int) := by omega
        have hgj := Hget.out j (by omega) hlt
        have hpre : pre dg u = j - 0 := by have := Hz.out; omega
        have hne : ¬ pre dg u = u.length := by have := Hul.out; omega
        have hdg := Hout.out hlt
        rw [← hpre] at hgj
        have Hdg := Lib.hid hdg
        by_cases h46 : s[j] = 46
        · obtain ⟨P, hP⟩ : ∃ P : ByteArray, P = s.extract (j + 1) s.size := ⟨_, rfl⟩
          have hPl : P.data.toList = u.drop (pre dg u + 1) := by
            rw [hP, Lib.extract_to_end, hpre, Hu.out, List.drop_drop]
            congr 1
            omega
          have hPsz : P.size = s.size - (j + 1) := by rw [hP]; simp
          have hPsm : P.size ≤ 100 := by omega
          rw [h46] at hgj
          have hform := form_part (u := u) (k := k) (W := W) (P := P) HWl.out hne hgj hPl
          have h46b : ((s[j].toNat : Int) != 46) = false := by rw [(byte_46 _).1 h46]; rfl
          have hj1' : (j : Int) + 1 ≤ (s.size : Int) := by omega
          have HP := Lib.hid hP
          have Hform := Lib.hid hform
          clear hP hform hdg h46 hgj hPl hpre hne hPsz hend
          go_upto_region 12 with (go_at_call 34; refine ((refDigit_any _ _).mono ?_); rintro e w' ⟨rfl, rfl⟩; rw [Hdg.out])
          rw [← HP.out]
          by_cases hP0 : P.size = 0
          · have hPe : ((P.size : Int) == 0) = true := beq_iff_eq.2 (by omega)
            have hPe2 : P = ByteArray.empty := by
              apply Go.WideShapes.bytes_inj
              have : P.data.size = 0 := hP0
              rw [Array.eq_empty_of_size_eq_zero this]; rfl
            have HF := Lib.hid (Hform.out.trans (by rw [if_neg (fun h => by have := part_size h.2; omega)]))
            clear hP0
            go_wp2
            go_ret2
            exact ⟨by rw [HF.out]; rfl, rfl⟩
          · have hPe : ((P.size : Int) == 0) = false := beq_eq_false_iff_ne.2 (by omega)
            have hPe2 : ¬ P = ByteArray.empty := fun h => hP0 (by rw [h]; rfl)
            by_cases hPk : P.size ≤ k
            · have hPk' : ¬ (k : Int) < (P.size : Int) := by omega
              by_cases hds : pre dg P.data.toList = P.data.toList.length
              · have Hds := Lib.hid (pre_all dg _ hds)
                have hpb : partB P.data.toList k = true := part_ok hP0 hds hPk
                have Hform0 := Lib.hid (fun (h : W.size = 0) => Hform.out.trans (by rw [if_neg (fun x => x.1.1 h)]))
                have Hform1 := Lib.hid (fun (_ : 0 < W.size) (h : 1 < W.size ∧ W.data.toList.head? = some 48) => Hform.out.trans (by rw [if_neg (fun x => x.1.2 h)]))
                have Hform2 := Lib.hid (fun (h0 : 0 < W.size) (h : ¬ (1 < W.size ∧ W.data.toList.head? = some 48)) => Hform.out.trans (by rw [if_pos ⟨⟨by omega, h⟩, hpb⟩]))
                clear hds hpb
                go_wp2
                rw [← HW.out]
                go_loop [11] (fun i => ∃ q : Nat, i = .int .i64 q ∧ q ≤ P.size) (fun i => 200 - (intOf i).toNat)
                case atStart => exact ⟨0, rfl, by omega⟩
                case round =>
                  obtain ⟨q, rfl, hq⟩ := hrel
                  by_cases hqp : q < P.size
                  · have Hq := Lib.hid (Hds.out P[q] (List.mem_of_getElem? (get_byte P q hqp)))
                    have hqi : (q : Int) < (P.size : Int) := by omega
                    have Hq2 : Hid (digB (P[q].toNat : Int) = true) := Lib.hid Hq.out
                    go_wp2_with (go_at_call 34; refine ((refDigit_any _ _).mono ?_); rintro e w' ⟨rfl, rfl⟩; rw [Hq2.out])
                    go_round
                    case rel => exact ⟨q + 1, by go_num, by omega⟩
                    case measure => simp [intOf]; omega
                  · have hqi : ¬ (q : Int) < (P.size : Int) := by omega
                    by_cases hw0 : W.size = 0
                    · have HF := Lib.hid (Hform0.out hw0)
                      have hwb : ((W.size : Int) == 0) = true := beq_iff_eq.2 (by omega)
                      clear hw0
                      go_wp2
                      go_ret2
                      exact ⟨by rw [HF.out]; rfl, rfl⟩
                    · have hwb : ((W.size : Int) == 0) = false := beq_eq_false_iff_ne.2 (by omega)
                      have hwp : (0 : Int) < (W.size : Int) := by omega
                      have hw1 : 0 < W.size := by omega
                      have hwe : ¬ W = ByteArray.empty := fun h => hw0 (by rw [h]; rfl)
                      have hh := get_byte W 0 hw1
                      have hg : W.data.toList.head? = some W[0] := by rw [List.head?_eq_getElem?, hh]
                      by_cases hz : 1 < W.size ∧ W.data.toList.head? = some 48
                      · have HF := Lib.hid (Hform1.out (by omega) hz)
                        have h1 : (1 : Int) < (W.size : Int) := by omega
                        have h48 : ((W[0].toNat : Int) == 48) = true := beq_iff_eq.2 ((byte_48 _).1 (by have := hz.2; rw [hg] at this; injection this))
                        clear hz hw0 hh hg
                        go_wp2
                        go_ret2
                        exact ⟨by rw [HF.out]; rfl, rfl⟩
                      · have HF := Lib.hid (Hform2.out (by omega) hz)
                        have hz' : ¬ (1 : Int) < (W.size : Int) ∨ ((1 : Int) < (W.size : Int) ∧ ((W[0].toNat : Int) == 48) = false) := by
                          by_cases h1 : 1 < W.size
                          · exact .inr ⟨by omega, beq_eq_false_iff_ne.2 (fun h => hz ⟨h1, by rw [hg, (byte_48 _).2 h]⟩)⟩
                          · exact .inl (by omega)
                        clear hz hw0 hh hg
                        rcases hz' with h1 | ⟨h1, h2⟩
                        all_goals
                          go_wp2
                          go_loop [10] (fun p => ∃ T : ByteArray, p = .string T ∧ T.data.toList = P.data.toList ++ List.replicate (T.size - P.size) 48 ∧ P.size ≤ T.size ∧ T.size ≤ k) (fun p => 20 - strSz2 p)
                          case atStart => exact ⟨P, rfl, by simp, Nat.le_refl _, hPk⟩
                          case round =>
                            obtain ⟨T, rfl, hT, hT1, hT2⟩ := hrel
                            by_cases hlt : T.size < k
                            · have HT := Lib.hid hT
                              clear hT
                              have hlt' : (T.size : Int) < (k : Int) := by omega
                              have hsmall : T.size + (⟨#[48]⟩ : ByteArray).size ≤ 20 := by show T.size + 1 ≤ 20; omega
                              go_wp2
                              go_round
                              case rel => exact ⟨_, rfl, pad_step HT.out hT1, by rw [ByteArray.size_append]; omega, by rw [ByteArray.size_append]; show T.size + 1 ≤ k; omega⟩
                              case measure => show 20 - (T ++ (⟨#[48]⟩ : ByteArray)).size < 20 - T.size; rw [ByteArray.size_append]; show 20 - (T.size + 1) < 20 - T.size; omega
                            · have hTk : T.size = k := by omega
                              have hlt' : ¬ (T.size : Int) < (k : Int) := by omega
                              obtain ⟨D, hD⟩ : ∃ D, D = W ++ T := ⟨_, rfl⟩
                              have hDl : D.data.toList = W.data.toList ++ P.data.toList ++ List.replicate (k - P.size) 48 := by rw [hD, ← hTk]; simp [hT]
                              have hOK : formS u k = some D.data.toList := by rw [hDl]; exact HF.out
                              have HDd := Lib.hid (formS_dg u k _ hOK)
                              have HOK := Lib.hid hOK
                              have hDs : D.size ≤ 200 := by rw [hD, ByteArray.size_append]; omega
                              have hWT : W.size + T.size ≤ 200 := by omega
                              have HD := Lib.hid hD
                              clear hT hTk hDl hOK hD
                              go_wp2
                              rw [← HD.out]
                              go_loop [13, 14, 15] (fun n i _ => ∃ (j : Nat) (m : Int), j ≤ D.size ∧ i = .int .i64 j ∧ n = .int .i64 m ∧ 0 ≤ m ∧ m ≤ 1152921504606846976 ∧ valGo 0 D.data.toList = valGo m (D.data.toList.drop j)) (fun _ i _ => D.size - (intOf i).toNat)
                              case atStart => exact ⟨0, 0, Nat.zero_le _, rfl, rfl, by omega, by omega, rfl⟩
                              case round =>
                                obtain ⟨j, m, hj, rfl, rfl, hm0, hm1, hv⟩ := hrel
                                by_cases hlt : j < D.size
                                · have hdg := HDd.out D[j] (List.mem_of_getElem? (get_byte D j hlt))
                                  have hd1 : (48 : Int) ≤ (D[j].toNat : Int) := by unfold dg digB at hdg; simp at hdg; omega
                                  have hd2 : (D[j].toNat : Int) ≤ 57 := by unfold dg digB at hdg; simp at hdg; omega
                                  rw [drop_cons D j hlt] at hv
                                  by_cases hbig : (1152921504606846976 - ((D[j].toNat : Int) - 48)) / 10 < m
                                  · rw [val_no hbig] at hv
                                    have Hv := Lib.hid hv
                                    clear hv hdg
                                    go_wp2
                                    go_ret2
                                    exact ⟨by rw [HOK.out]; simp only [outS, Hv.out]; rfl, rfl⟩
                                  · rw [val_yes hbig] at hv
                                    have Hv := Lib.hid hv
                                    clear hv hdg
                                    go_wp2
                                    go_round
                                    case rel => exact ⟨j + 1, _, by omega, by go_num, rfl, by omega, by omega, Hv.out⟩
                                    case measure => simp [intOf]; omega
                                · rw [List.drop_eq_nil_of_le (by simp; omega)] at hv
                                  have Hv := Lib.hid hv
                                  clear hv
                                  go_wp2
                                  go_ret2
                                  exact ⟨by rw [HOK.out]; simp only [outS, Hv.out]; rfl, rfl⟩
              · have Hnds := Lib.hid hds
                have HF := Lib.hid (Hform.out.trans (by rw [if_neg (fun h => hds (part_all h.2))]))
                clear hds
                go_wp2
                go_loop [11] (fun i => ∃ q : Nat, i = .int .i64 q ∧ q ≤ P.size ∧ ∀ q', q' < q → ∀ c, P.data.toList[q']? = some c → dg c = true) (fun i => 200 - (intOf i).toNat)
                case atStart => exact ⟨0, rfl, by omega, fun q' h => absurd h (by omega)⟩
                case round =>
                  obtain ⟨q, rfl, hq, hall⟩ := hrel
                  have Hall := Lib.hid hall
                  clear hall
                  by_cases hqp : q < P.size
                  · have hqi : (q : Int) < (P.size : Int) := by omega
                    have Hgq := Lib.hid (get_byte P q hqp)
                    by_cases hd : digB (P[q].toNat : Int) = true
                    · have Hq2 := Lib.hid hd
                      clear hd
                      go_wp2_with (go_at_call 34; refine ((refDigit_any _ _).mono ?_); rintro e w' ⟨rfl, rfl⟩; rw [Hq2.out])
                      go_round
                      case rel => exact ⟨q + 1, by go_num, by omega, fun q' h c hc => by
                        by_cases e : q' = q
                        · subst e; rw [Hgq.out] at hc; cases hc; exact Hq2.out
                        · exact Hall.out q' (by omega) c hc⟩
                      case measure => simp [intOf]; omega
                    · have Hq2 : Hid (digB (P[q].toNat : Int) = false) := Lib.hid (by simpa using hd)
                      clear hd
                      go_wp2_with (go_at_call 34; refine ((refDigit_any _ _).mono ?_); rintro e w' ⟨rfl, rfl⟩; rw [Hq2.out])
                      go_ret2
                      exact ⟨by rw [HF.out]; rfl, rfl⟩
                  · exfalso
                    apply Hnds.out
                    refine pre_eq dg _ _ (Nat.le_refl _) (fun q' h c hc => ?_) (fun c hc => by rw [List.getElem?_eq_none (Nat.le_refl _)] at hc; cases hc)
                    have hl : P.data.toList.length = P.size := by simp
                    exact Hall.out q' (by omega) c hc
            · have hPk' : (k : Int) < (P.size : Int) := by omega
              have HF := Lib.hid (Hform.out.trans (by rw [if_neg (fun h => by have := part_size h.2; omega)]))
              clear hPk hP0
              go_wp2
              go_ret2
              exact ⟨by rw [HF.out]; rfl, rfl⟩
        · have HF := Lib.hid (form_bad (u := u) (k := k) hne (by rw [hgj]; intro h; injection h with h; exact h46 h))
          have h46b : ((s[j].toNat : Int) != 46) = true := bne_iff_ne.2 (fun h => h46 ((byte_46 _).2 h))
          clear hdg h46 hgj hpre hne hend
          go_wp2_with (go_at_call 34; refine ((refDigit_any _ _).mono ?_); rintro e w' ⟨rfl, rfl⟩; rw [Hdg.out])
          go_ret2
          exact ⟨by rw [HF.out]; rfl, rfl⟩

set_option maxRecDepth 100000 in
set_option maxHeartbeats 8000000 in
theorem refParse_1 (s : ByteArray) (k : Nat) (w : World) (hk : k ≤ 9) (hs : s.size ≤ 100) (hpos : 0 < s.size) (hb : ((s[0].toNat : Int) == 45) = true) :
    Calls Try.prog 15 #[.string s, .int .i64 k] w fun e w' => e = .returned (.tuple #[.int .i64 (outS (formS (s.data.toList.drop 1) k) true).1, .int .i64 (outS (formS (s.data.toList.drop 1) k) true).2]) ∧ w = w' := by
  have hp : (0 : Int) < (s.size : Int) := by omega
  obtain ⟨u, hu⟩ : ∃ u, u = s.data.toList.drop 1 := ⟨_, rfl⟩
  have hul : u.length = s.size - 1 := by rw [hu]; simp
  have hale := pre_le dg u
  obtain ⟨z, hz⟩ : ∃ z, z = 1 + pre dg u := ⟨_, rfl⟩
  have hzs : z ≤ s.size := by omega
  have hget : ∀ i, 1 ≤ i → (h : i < s.size) → u[i - 1]? = some s[i] := fun i h1 h => by
    rw [hu, List.getElem?_drop, show 1 + (i - 1) = i from by omega]; exact get_byte s i h
  have hin : ∀ i, 1 ≤ i → i < z → (h : i < s.size) → digB (s[i].toNat : Int) = true := fun i h1 h2 h => pre_yes dg u (i - 1) (by omega) _ (hget i h1 h)
  have hout : (h : z < s.size) → digB (s[z].toNat : Int) = false := fun h => pre_no dg u _ (by rw [show pre dg u = z - 1 from by omega]; exact hget z (by omega) h)
  obtain ⟨W, hW⟩ : ∃ W, W = s.extract 1 z := ⟨_, rfl⟩
  have hWl : W.data.toList = u.take (pre dg u) := by
    rw [hW, Lib.extract_data, hu, show z - 1 = pre dg u from by omega, hu]
  have hWs : W.size = pre dg u := by
    have : W.data.toList.length = pre dg u := by rw [hWl, List.length_take]; omega
    simpa using this
  rw [← hu]
  have Hin := Lib.hid hin
  have Hout := Lib.hid hout
  have HWl := Lib.hid hWl
  have HWs := Lib.hid hWs
  have HW := Lib.hid hW
  have Hz := Lib.hid hz
  have Hu := Lib.hid hu
  have Hul := Lib.hid hul
  have Hget := Lib.hid hget
  have hWsm : W.size ≤ 100 := by omega
  have hFz : 1 ≤ z := by omega
  clear hin hout hWl hWs hW hz hu hul hget hale
  go_enter Try.func15, Try.ntmps15
  go_wp2
  go_loop [6] (fun i => ∃ j : Nat, i = .int .i64 j ∧ 1 ≤ j ∧ j ≤ z) (fun i => 200 - (intOf i).toNat)
  case atStart => exact ⟨1, rfl, by omega, hFz⟩
  case round =>
    obtain ⟨j, rfl, hj1, hj2⟩ := hrel
    by_cases hjz : j < z
    · have hd := Hin.out j hj1 hjz (by omega)
      have hjs : (j : Int) < (s.size : Int) := by omega
      have Hd := Lib.hid hd
      clear hd
      go_wp2_with (go_at_call 34; refine ((refDigit_any _ _).mono ?_); rintro e w' ⟨rfl, rfl⟩; rw [Hd.out])
      go_round
      case rel => exact ⟨j + 1, by go_num, by omega, by omega⟩
      case measure => simp [intOf]; omega
    · obtain rfl : j = z := by omega
      by_cases hend : j = s.size
      · have hjs : ¬ (j : Int) < (s.size : Int) := by omega
        obtain ⟨P, hP⟩ : ∃ P : ByteArray, P = ⟨#[]⟩ := ⟨_, rfl⟩
        have hPs : P.size = 0 := by rw [hP]; rfl
        have hPk : P.size ≤ k := by omega
        have hPb : ¬ (0 : Int) < (P.size : Int) := by omega
        have Hform0 := Lib.hid (fun h => form_no (u := u) (k := k) (.inl (by rw [← HWs.out]; exact h)))
        have Hform1 := Lib.hid (fun (h0 : 0 < W.size) (h : 1 < W.size ∧ W.data.toList.head? = some 48) => form_no (u := u) (k := k) (.inr ⟨by rw [← HWs.out]; exact h.1, head_of HWl.out h0 h.2⟩))
        have Hform2 := Lib.hid (fun (h0 : 0 < W.size) (h : ¬ (1 < W.size ∧ W.data.toList.head? = some 48)) => form_end (u := u) (k := k) (P := P) HWl.out HWs.out h0 h (by have := Hul.out; have := Hz.out; omega) hP)
        have HP := Lib.hid hP
        have HPs := Lib.hid hPs
        have Hend := Lib.hid hend
        clear hP hPs hend
        go_wp2
        rw [← HW.out, ← HP.out]
        go_loop [11] (fun i => i = .int .i64 0) (fun _ => 0)
        case atStart => rfl
        case round =>
          subst hrel
          by_cases hw0 : W.size = 0
          · have HF := Lib.hid (Hform0.out hw0)
            have hwb : ((W.size : Int) == 0) = true := beq_iff_eq.2 (by omega)
            clear hw0
            go_wp2
            go_ret2
            exact ⟨by rw [HF.out]; rfl, rfl⟩
          · have hwb : ((W.size : Int) == 0) = false := beq_eq_false_iff_ne.2 (by omega)
            have hwp : (0 : Int) < (W.size : Int) := by omega
            have hw1 : 0 < W.size := by omega
            have hwe : ¬ W = ByteArray.empty := fun h => hw0 (by rw [h]; rfl)
            have hh := get_byte W 0 hw1
            have hg : W.data.toList.head? = some W[0] := by rw [List.head?_eq_getElem?, hh]
            by_cases hz : 1 < W.size ∧ W.data.toList.head? = some 48
            · have HF := Lib.hid (Hform1.out (by omega) hz)
              have h1 : (1 : Int) < (W.size : Int) := by omega
              have h48 : ((W[0].toNat : Int) == 48) = true := beq_iff_eq.2 ((byte_48 _).1 (by have := hz.2; rw [hg] at this; injection this))
              clear hz hw0 hh hg
              go_wp2
              go_ret2
              exact ⟨by rw [HF.out]; rfl, rfl⟩
            · have HF := Lib.hid (Hform2.out (by omega) hz)
              have hz' : ¬ (1 : Int) < (W.size : Int) ∨ ((1 : Int) < (W.size : Int) ∧ ((W[0].toNat : Int) == 48) = false) := by
                by_cases h1 : 1 < W.size
                · exact .inr ⟨by omega, beq_eq_false_iff_ne.2 (fun h => hz ⟨h1, by rw [hg, (byte_48 _).2 h]⟩)⟩
                · exact .inl (by omega)
              clear hz hw0 hh hg
              rcases hz' with h1 | ⟨h1, h2⟩
              all_goals
                go_wp2
                go_loop [10] (fun p => ∃ T : ByteArray, p = .string T ∧ T.data.toList = P.data.toList ++ List.replicate (T.size - P.size) 48 ∧ P.size ≤ T.size ∧ T.size ≤ k) (fun p => 20 - strSz2 p)
                case atStart => exact ⟨P, rfl, by simp, Nat.le_refl _, hPk⟩
                case round =>
                  obtain ⟨T, rfl, hT, hT1, hT2⟩ := hrel
                  by_cases hlt : T.size < k
                  · have HT := Lib.hid hT
                    clear hT
                    have hlt' : (T.size : Int) < (k : Int) := by omega
                    have hsmall : T.size + (⟨#[48]⟩ : ByteArray).size ≤ 20 := by show T.size + 1 ≤ 20; omega
                    go_wp2
                    go_round
                    case rel => exact ⟨_, rfl, pad_step HT.out hT1, by rw [ByteArray.size_append]; omega, by rw [ByteArray.size_append]; show T.size + 1 ≤ k; omega⟩
                    case measure => show 20 - (T ++ (⟨#[48]⟩ : ByteArray)).size < 20 - T.size; rw [ByteArray.size_append]; show 20 - (T.size + 1) < 20 - T.size; omega
                  · have hTk : T.size = k := by omega
                    have hlt' : ¬ (T.size : Int) < (k : Int) := by omega
                    obtain ⟨D, hD⟩ : ∃ D, D = W ++ T := ⟨_, rfl⟩
                    have hDl : D.data.toList = W.data.toList ++ P.data.toList ++ List.replicate (k - P.size) 48 := by rw [hD, ← hTk]; simp [hT]
                    have hOK : formS u k = some D.data.toList := by rw [hDl]; exact HF.out
                    have HDd := Lib.hid (formS_dg u k _ hOK)
                    have HOK := Lib.hid hOK
                    have hDs : D.size ≤ 200 := by rw [hD, ByteArray.size_append]; omega
                    have hWT : W.size + T.size ≤ 200 := by omega
                    have HD := Lib.hid hD
                    clear hT hTk hDl hOK hD
                    go_wp2
                    rw [← HD.out]
                    go_loop [13, 14, 15] (fun n i _ => ∃ (j : Nat) (m : Int), j ≤ D.size ∧ i = .int .i64 j ∧ n = .int .i64 m ∧ 0 ≤ m ∧ m ≤ 1152921504606846976 ∧ valGo 0 D.data.toList = valGo m (D.data.toList.drop j)) (fun _ i _ => D.size - (intOf i).toNat)
                    case atStart => exact ⟨0, 0, Nat.zero_le _, rfl, rfl, by omega, by omega, rfl⟩
                    case round =>
                      obtain ⟨j, m, hj, rfl, rfl, hm0, hm1, hv⟩ := hrel
                      by_cases hlt : j < D.size
                      · have hdg := HDd.out D[j] (List.mem_of_getElem? (get_byte D j hlt))
                        have hd1 : (48 : Int) ≤ (D[j].toNat : Int) := by unfold dg digB at hdg; simp at hdg; omega
                        have hd2 : (D[j].toNat : Int) ≤ 57 := by unfold dg digB at hdg; simp at hdg; omega
                        rw [drop_cons D j hlt] at hv
                        by_cases hbig : (1152921504606846976 - ((D[j].toNat : Int) - 48)) / 10 < m
                        · rw [val_no hbig] at hv
                          have Hv := Lib.hid hv
                          clear hv hdg
                          go_wp2
                          go_ret2
                          exact ⟨by rw [HOK.out]; simp only [outS, Hv.out]; rfl, rfl⟩
                        · rw [val_yes hbig] at hv
                          have Hv := Lib.hid hv
                          clear hv hdg
                          go_wp2
                          go_round
                          case rel => exact ⟨j + 1, _, by omega, by go_num, rfl, by omega, by omega, Hv.out⟩
                          case measure => simp [intOf]; omega
                      · rw [List.drop_eq_nil_of_le (by simp; omega)] at hv
                        have Hv := Lib.hid hv
                        clear hv
                        go_wp2
                        go_ret2
                        exact ⟨by rw [HOK.out]; simp only [outS, Hv.out]; rfl, rfl⟩
      · have hlt : j < s.size := by omega
        have hjs : (j : Int) < (s.size : Int) := by omega
        have hgj := Hget.out j (by omega) hlt
        have hpre : pre dg u = j - 1 := by have := Hz.out; omega
        have hne : ¬ pre dg u = u.length := by have := Hul.out; omega
        have hdg := Hout.out hlt
        rw [← hpre] at hgj
        have Hdg := Lib.hid hdg
        by_cases h46 : s[j] = 46
        · obtain ⟨P, hP⟩ : ∃ P : ByteArray, P = s.extract (j + 1) s.size := ⟨_, rfl⟩
          have hPl : P.data.toList = u.drop (pre dg u + 1) := by
            rw [hP, Lib.extract_to_end, hpre, Hu.out, List.drop_drop]
            congr 1
            omega
          have hPsz : P.size = s.size - (j + 1) := by rw [hP]; simp
          have hPsm : P.size ≤ 100 := by omega
          rw [h46] at hgj
          have hform := form_part (u := u) (k := k) (W := W) (P := P) HWl.out hne hgj hPl
          have h46b : ((s[j].toNat : Int) != 46) = false := by rw [(byte_46 _).1 h46]; rfl
          have hj1' : (j : Int) + 1 ≤ (s.size : Int) := by omega
          have HP := Lib.hid hP
          have Hform := Lib.hid hform
          clear hP hform hdg h46 hgj hPl hpre hne hPsz hend
          go_upto_region 12 with (go_at_call 34; refine ((refDigit_any _ _).mono ?_); rintro e w' ⟨rfl, rfl⟩; rw [Hdg.out])
          rw [← HP.out]
          by_cases hP0 : P.size = 0
          · have hPe : ((P.size : Int) == 0) = true := beq_iff_eq.2 (by omega)
            have hPe2 : P = ByteArray.empty := by
              apply Go.WideShapes.bytes_inj
              have : P.data.size = 0 := hP0
              rw [Array.eq_empty_of_size_eq_zero this]; rfl
            have HF := Lib.hid (Hform.out.trans (by rw [if_neg (fun h => by have := part_size h.2; omega)]))
            clear hP0
            go_wp2
            go_ret2
            exact ⟨by rw [HF.out]; rfl, rfl⟩
          · have hPe : ((P.size : Int) == 0) = false := beq_eq_false_iff_ne.2 (by omega)
            have hPe2 : ¬ P = ByteArray.empty := fun h => hP0 (by rw [h]; rfl)
            by_cases hPk : P.size ≤ k
            · have hPk' : ¬ (k : Int) < (P.size : Int) := by omega
              by_cases hds : pre dg P.data.toList = P.data.toList.length
              · have Hds := Lib.hid (pre_all dg _ hds)
                have hpb : partB P.data.toList k = true := part_ok hP0 hds hPk
                have Hform0 := Lib.hid (fun (h : W.size = 0) => Hform.out.trans (by rw [if_neg (fun x => x.1.1 h)]))
                have Hform1 := Lib.hid (fun (_ : 0 < W.size) (h : 1 < W.size ∧ W.data.toList.head? = some 48) => Hform.out.trans (by rw [if_neg (fun x => x.1.2 h)]))
                have Hform2 := Lib.hid (fun (h0 : 0 < W.size) (h : ¬ (1 < W.size ∧ W.data.toList.head? = some 48)) => Hform.out.trans (by rw [if_pos ⟨⟨by omega, h⟩, hpb⟩]))
                clear hds hpb
                go_wp2
                rw [← HW.out]
                go_loop [11] (fun i => ∃ q : Nat, i = .int .i64 q ∧ q ≤ P.size) (fun i => 200 - (intOf i).toNat)
                case atStart => exact ⟨0, rfl, by omega⟩
                case round =>
                  obtain ⟨q, rfl, hq⟩ := hrel
                  by_cases hqp : q < P.size
                  · have Hq := Lib.hid (Hds.out P[q] (List.mem_of_getElem? (get_byte P q hqp)))
                    have hqi : (q : Int) < (P.size : Int) := by omega
                    have Hq2 : Hid (digB (P[q].toNat : Int) = true) := Lib.hid Hq.out
                    go_wp2_with (go_at_call 34; refine ((refDigit_any _ _).mono ?_); rintro e w' ⟨rfl, rfl⟩; rw [Hq2.out])
                    go_round
                    case rel => exact ⟨q + 1, by go_num, by omega⟩
                    case measure => simp [intOf]; omega
                  · have hqi : ¬ (q : Int) < (P.size : Int) := by omega
                    by_cases hw0 : W.size = 0
                    · have HF := Lib.hid (Hform0.out hw0)
                      have hwb : ((W.size : Int) == 0) = true := beq_iff_eq.2 (by omega)
                      clear hw0
                      go_wp2
                      go_ret2
                      exact ⟨by rw [HF.out]; rfl, rfl⟩
                    · have hwb : ((W.size : Int) == 0) = false := beq_eq_false_iff_ne.2 (by omega)
                      have hwp : (0 : Int) < (W.size : Int) := by omega
                      have hw1 : 0 < W.size := by omega
                      have hwe : ¬ W = ByteArray.empty := fun h => hw0 (by rw [h]; rfl)
                      have hh := get_byte W 0 hw1
                      have hg : W.data.toList.head? = some W[0] := by rw [List.head?_eq_getElem?, hh]
                      by_cases hz : 1 < W.size ∧ W.data.toList.head? = some 48
                      · have HF := Lib.hid (Hform1.out (by omega) hz)
                        have h1 : (1 : Int) < (W.size : Int) := by omega
                        have h48 : ((W[0].toNat : Int) == 48) = true := beq_iff_eq.2 ((byte_48 _).1 (by have := hz.2; rw [hg] at this; injection this))
                        clear hz hw0 hh hg
                        go_wp2
                        go_ret2
                        exact ⟨by rw [HF.out]; rfl, rfl⟩
                      · have HF := Lib.hid (Hform2.out (by omega) hz)
                        have hz' : ¬ (1 : Int) < (W.size : Int) ∨ ((1 : Int) < (W.size : Int) ∧ ((W[0].toNat : Int) == 48) = false) := by
                          by_cases h1 : 1 < W.size
                          · exact .inr ⟨by omega, beq_eq_false_iff_ne.2 (fun h => hz ⟨h1, by rw [hg, (byte_48 _).2 h]⟩)⟩
                          · exact .inl (by omega)
                        clear hz hw0 hh hg
                        rcases hz' with h1 | ⟨h1, h2⟩
                        all_goals
                          go_wp2
                          go_loop [10] (fun p => ∃ T : ByteArray, p = .string T ∧ T.data.toList = P.data.toList ++ List.replicate (T.size - P.size) 48 ∧ P.size ≤ T.size ∧ T.size ≤ k) (fun p => 20 - strSz2 p)
                          case atStart => exact ⟨P, rfl, by simp, Nat.le_refl _, hPk⟩
                          case round =>
                            obtain ⟨T, rfl, hT, hT1, hT2⟩ := hrel
                            by_cases hlt : T.size < k
                            · have HT := Lib.hid hT
                              clear hT
                              have hlt' : (T.size : Int) < (k : Int) := by omega
                              have hsmall : T.size + (⟨#[48]⟩ : ByteArray).size ≤ 20 := by show T.size + 1 ≤ 20; omega
                              go_wp2
                              go_round
                              case rel => exact ⟨_, rfl, pad_step HT.out hT1, by rw [ByteArray.size_append]; omega, by rw [ByteArray.size_append]; show T.size + 1 ≤ k; omega⟩
                              case measure => show 20 - (T ++ (⟨#[48]⟩ : ByteArray)).size < 20 - T.size; rw [ByteArray.size_append]; show 20 - (T.size + 1) < 20 - T.size; omega
                            · have hTk : T.size = k := by omega
                              have hlt' : ¬ (T.size : Int) < (k : Int) := by omega
                              obtain ⟨D, hD⟩ : ∃ D, D = W ++ T := ⟨_, rfl⟩
                              have hDl : D.data.toList = W.data.toList ++ P.data.toList ++ List.replicate (k - P.size) 48 := by rw [hD, ← hTk]; simp [hT]
                              have hOK : formS u k = some D.data.toList := by rw [hDl]; exact HF.out
                              have HDd := Lib.hid (formS_dg u k _ hOK)
                              have HOK := Lib.hid hOK
                              have hDs : D.size ≤ 200 := by rw [hD, ByteArray.size_append]; omega
                              have hWT : W.size + T.size ≤ 200 := by omega
                              have HD := Lib.hid hD
                              clear hT hTk hDl hOK hD
                              go_wp2
                              rw [← HD.out]
                              go_loop [13, 14, 15] (fun n i _ => ∃ (j : Nat) (m : Int), j ≤ D.size ∧ i = .int .i64 j ∧ n = .int .i64 m ∧ 0 ≤ m ∧ m ≤ 1152921504606846976 ∧ valGo 0 D.data.toList = valGo m (D.data.toList.drop j)) (fun _ i _ => D.size - (intOf i).toNat)
                              case atStart => exact ⟨0, 0, Nat.zero_le _, rfl, rfl, by omega, by omega, rfl⟩
                              case round =>
                                obtain ⟨j, m, hj, rfl, rfl, hm0, hm1, hv⟩ := hrel
                                by_cases hlt : j < D.size
                                · have hdg := HDd.out D[j] (List.mem_of_getElem? (get_byte D j hlt))
                                  have hd1 : (48 : Int) ≤ (D[j].toNat : Int) := by unfold dg digB at hdg; simp at hdg; omega
                                  have hd2 : (D[j].toNat : Int) ≤ 57 := by unfold dg digB at hdg; simp at hdg; omega
                                  rw [drop_cons D j hlt] at hv
                                  by_cases hbig : (1152921504606846976 - ((D[j].toNat : Int) - 48)) / 10 < m
                                  · rw [val_no hbig] at hv
                                    have Hv := Lib.hid hv
                                    clear hv hdg
                                    go_wp2
                                    go_ret2
                                    exact ⟨by rw [HOK.out]; simp only [outS, Hv.out]; rfl, rfl⟩
                                  · rw [val_yes hbig] at hv
                                    have Hv := Lib.hid hv
                                    clear hv hdg
                                    go_wp2
                                    go_round
                                    case rel => exact ⟨j + 1, _, by omega, by go_num, rfl, by omega, by omega, Hv.out⟩
                                    case measure => simp [intOf]; omega
                                · rw [List.drop_eq_nil_of_le (by simp; omega)] at hv
                                  have Hv := Lib.hid hv
                                  clear hv
                                  go_wp2
                                  go_ret2
                                  exact ⟨by rw [HOK.out]; simp only [outS, Hv.out]; rfl, rfl⟩
              · have Hnds := Lib.hid hds
                have HF := Lib.hid (Hform.out.trans (by rw [if_neg (fun h => hds (part_all h.2))]))
                clear hds
                go_wp2
                go_loop [11] (fun i => ∃ q : Nat, i = .int .i64 q ∧ q ≤ P.size ∧ ∀ q', q' < q → ∀ c, P.data.toList[q']? = some c → dg c = true) (fun i => 200 - (intOf i).toNat)
                case atStart => exact ⟨0, rfl, by omega, fun q' h => absurd h (by omega)⟩
                case round =>
                  obtain ⟨q, rfl, hq, hall⟩ := hrel
                  have Hall := Lib.hid hall
                  clear hall
                  by_cases hqp : q < P.size
                  · have hqi : (q : Int) < (P.size : Int) := by omega
                    have Hgq := Lib.hid (get_byte P q hqp)
                    by_cases hd : digB (P[q].toNat : Int) = true
                    · have Hq2 := Lib.hid hd
                      clear hd
                      go_wp2_with (go_at_call 34; refine ((refDigit_any _ _).mono ?_); rintro e w' ⟨rfl, rfl⟩; rw [Hq2.out])
                      go_round
                      case rel => exact ⟨q + 1, by go_num, by omega, fun q' h c hc => by
                        by_cases e : q' = q
                        · subst e; rw [Hgq.out] at hc; cases hc; exact Hq2.out
                        · exact Hall.out q' (by omega) c hc⟩
                      case measure => simp [intOf]; omega
                    · have Hq2 : Hid (digB (P[q].toNat : Int) = false) := Lib.hid (by simpa using hd)
                      clear hd
                      go_wp2_with (go_at_call 34; refine ((refDigit_any _ _).mono ?_); rintro e w' ⟨rfl, rfl⟩; rw [Hq2.out])
                      go_ret2
                      exact ⟨by rw [HF.out]; rfl, rfl⟩
                  · exfalso
                    apply Hnds.out
                    refine pre_eq dg _ _ (Nat.le_refl _) (fun q' h c hc => ?_) (fun c hc => by rw [List.getElem?_eq_none (Nat.le_refl _)] at hc; cases hc)
                    have hl : P.data.toList.length = P.size := by simp
                    exact Hall.out q' (by omega) c hc
            · have hPk' : (k : Int) < (P.size : Int) := by omega
              have HF := Lib.hid (Hform.out.trans (by rw [if_neg (fun h => by have := part_size h.2; omega)]))
              clear hPk hP0
              go_wp2
              go_ret2
              exact ⟨by rw [HF.out]; rfl, rfl⟩
        · have HF := Lib.hid (form_bad (u := u) (k := k) hne (by rw [hgj]; intro h; injection h with h; exact h46 h))
          have h46b : ((s[j].toNat : Int) != 46) = true := bne_iff_ne.2 (fun h => h46 ((byte_46 _).2 h))
          clear hdg h46 hgj hpre hne hend
          go_wp2_with (go_at_call 34; refine ((refDigit_any _ _).mono ?_); rintro e w' ⟨rfl, rfl⟩; rw [Hdg.out])
          go_ret2
          exact ⟨by rw [HF.out]; rfl, rfl⟩

set_option maxRecDepth 100000 in
set_option maxHeartbeats 4000000 in
theorem refParse_empty (k : Nat) (w : World) :
    Calls Try.prog 15 #[.string ⟨#[]⟩, .int .i64 k] w fun e w' => e = .returned (.tuple #[.int .i64 0, .int .i64 7]) ∧ w = w' := by
  go_enter Try.func15, Try.ntmps15
  go_wp2
  go_loop [6] (fun i => i = .int .i64 0) (fun _ => 0)
  case atStart => rfl
  case round =>
    subst hrel
    go_wp2
    go_loop [11] (fun i => i = .int .i64 0) (fun _ => 0)
    case atStart => rfl
    case round =>
      subst hrel
      go_wp2
      go_ret2
      exact ⟨rfl, rfl⟩

theorem parse_out (l : List UInt8) (k : Nat) : parseS l k = outS (formS (unS l) k) (decide (l.head? = some 45)) := by
  unfold parseS outS
  cases formS (unS l) k with
  | none => rfl
  | some ds =>
    show (match valGo 0 ds with | none => ((0 : Int), (5 : Int)) | some n => _) = _
    simp only
    cases valGo 0 ds with
    | none => rfl
    | some n => simp

theorem refParse_any (s : ByteArray) (k : Nat) (w : World) (hk : k ≤ 9) (hs : s.size ≤ 100) :
    Calls Try.prog 15 #[.string s, .int .i64 k] w fun e w' => e = .returned (.tuple #[.int .i64 (parseS s.data.toList k).1, .int .i64 (parseS s.data.toList k).2]) ∧ w = w' := by
  by_cases h0 : s.data.toList = []
  · have hse : s = ⟨#[]⟩ := by
      apply Go.WideShapes.bytes_inj
      rw [h0]
    subst hse
    exact refParse_empty k w
  · have hpos := size_pos h0
    have hg := get_byte s 0 hpos
    have hh : s.data.toList.head? = some s[0] := by rw [List.head?_eq_getElem?, hg]
    by_cases hb : (s[0].toNat : Int) = 45
    · have h45 : s[0] = 45 := by apply UInt8.toNat_inj.mp; simp; omega
      have e : parseS s.data.toList k = outS (formS (s.data.toList.drop 1) k) true := by
        rw [parse_out]
        unfold unS
        rw [hh, h45, if_pos rfl]
        simp
      rw [e]
      exact refParse_1 s k w hk hs hpos (beq_iff_eq.2 hb)
    · have h45 : ¬ s[0] = 45 := fun h => hb (by rw [h]; rfl)
      have e : parseS s.data.toList k = outS (formS (s.data.toList.drop 0) k) false := by
        rw [parse_out]
        unfold unS
        rw [hh, if_neg (by intro h; injection h with h; exact h45 h)]
        simp [h45]
      rw [e]
      exact refParse_0 s k w hk hs hpos (beq_eq_false_iff_ne.2 hb)

end Go.Proofs.Ytbpcfgeefelfdaa
