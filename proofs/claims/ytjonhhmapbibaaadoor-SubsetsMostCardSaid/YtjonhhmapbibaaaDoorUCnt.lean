/- Layer 7: the reference's Counts, walked. -/
import Derived.Test.YtjonhhmapbibaaaDoorURef
import Derived.Test.YtjonhhmapbibaaaDoorUPk
namespace Go.Proofs.YtjonhhmapbibaaaDoor
open Go.ChangeShapes Go.WideShapes Go.ChangeAt Go.RowKit Go.Joins Go.Deep Go.Shelf
set_option linter.unusedVariables false

def lowS (s : Nat) : Nat := s &&& (18446744073709551616 - s)
theorem and_neg_i64 (s : Nat) (h0 : 0 < s) (hs : s < 9223372036854775808) : bits .and .i64 (s : Int) (-(s : Int)) = ((lowS s : Nat) : Int) := by
  have hx : lowS s ≤ s := Nat.and_le_left
  have h1 : (BitVec.ofInt 64 (s : Int)).toNat = s := by
    rw [BitVec.ofInt_natCast, BitVec.toNat_ofNat]; exact Nat.mod_eq_of_lt (by omega)
  have h2 : (BitVec.ofInt 64 (-(s : Int))).toNat = 18446744073709551616 - s := by
    rw [BitVec.toNat_ofInt]; omega
  show IntKind.i64.wrap ((BitVec.ofInt 64 (s : Int) &&& BitVec.ofInt 64 (-(s : Int))).toNat : Int) = _
  rw [BitVec.toNat_and, h1, h2]
  exact IntWalk.i64_in _ (by unfold lowS at hx; omega)
/-- A part that may be the first one of a set. -/
def Qt (F : Nat → Int) (s q : Nat) : Prop := q &&& s = q ∧ q &&& lowS s ≠ 0 ∧ F q = 0
/-- A set is so many parts. -/
def Pt (F : Nat → Int) : Nat → Nat → Prop
  | s, 0 => s = 0
  | s, j + 1 => ∃ q, Qt F s q ∧ Pt F (s - q) j
/-- The most parts of a set, or -1. -/
def IsCnt (F : Nat → Int) (s : Nat) (c : Int) : Prop := (c = -1 ∧ ∀ j, ¬ Pt F s j) ∨ (∃ j : Nat, c = (j : Int) ∧ Pt F s j ∧ ∀ i, Pt F s i → i ≤ j)
theorem Qt.pos {F : Nat → Int} {s q : Nat} (h : Qt F s q) : 0 < q := by
  rcases Nat.eq_zero_or_pos q with e | e
  · exact absurd (by rw [e]; simp) h.2.1
  · exact e
theorem Qt.le {F : Nat → Int} {s q : Nat} (h : Qt F s q) : q ≤ s := by rw [← h.1]; exact Nat.and_le_right
theorem isCnt_zero (F : Nat → Int) : IsCnt F 0 0 := .inr ⟨0, rfl, rfl, fun i hi => by
  cases i with
  | zero => exact Nat.le_refl _
  | succ i => obtain ⟨q, h, _⟩ := hi; have := h.pos; have := h.le; omega⟩
/-- The best of the parts above p. -/
def BstI (F C : Nat → Int) (s p : Nat) (b : Int) : Prop :=
  (b = -1 ∧ ∀ q, p < q → Qt F s q → C (s - q) < 0) ∨ (∃ q, p < q ∧ Qt F s q ∧ 0 ≤ C (s - q) ∧ b = C (s - q) + 1 ∧ ∀ q', p < q' → Qt F s q' → C (s - q') + 1 ≤ b)
theorem BstI.init (F C : Nat → Int) (s : Nat) : BstI F C s s (-1) := .inl ⟨rfl, fun q h hq => by have := hq.le; omega⟩
theorem BstI.low {F C : Nat → Int} {s p : Nat} {b : Int} (h : BstI F C s p b) : -1 ≤ b := by
  rcases h with ⟨e, _⟩ | ⟨q, _, _, h0, e, _⟩ <;> omega
theorem above {s p q : Nat} (hp : p &&& s = p) (hq : q &&& s = q) (h : (p - 1) &&& s < q) : p < q ∨ q = p := by
  rcases Nat.lt_trichotomy q p with e | e | e
  · have := prev_sub p q s hp hq e; omega
  · exact .inr e
  · exact .inl e
/-- The part p is none, or brings nothing. -/
theorem BstI.skip {F C : Nat → Int} {s p : Nat} {b : Int} (h : BstI F C s p b) (hp : p &&& s = p) (h0 : 0 < p) (hn : Qt F s p → C (s - p) < 0 ∨ C (s - p) + 1 ≤ b) : BstI F C s ((p - 1) &&& s) b := by
  have hle : (p - 1) &&& s < p := Nat.lt_of_le_of_lt Nat.and_le_left (by omega)
  rcases h with ⟨e, h⟩ | ⟨q, hq, hQ, hc, e, h⟩
  · refine .inl ⟨e, fun q hl hQ => ?_⟩
    rcases above hp hQ.1 hl with l | l
    · exact h q l hQ
    · subst l
      have := hn hQ
      omega
  · refine .inr ⟨q, by omega, hQ, hc, e, fun q' hl hQ' => ?_⟩
    rcases above hp hQ'.1 hl with l | l
    · exact h q' l hQ'
    · subst l
      have := hn hQ'
      omega
theorem BstI.take {F C : Nat → Int} {s p : Nat} {b : Int} (h : BstI F C s p b) (hp : p &&& s = p) (h0 : 0 < p) (hQ : Qt F s p) (hc : 0 ≤ C (s - p)) (hb : b < C (s - p) + 1) : BstI F C s ((p - 1) &&& s) (C (s - p) + 1) := by
  have hle : (p - 1) &&& s < p := Nat.lt_of_le_of_lt Nat.and_le_left (by omega)
  refine .inr ⟨p, hle, hQ, hc, rfl, fun q' hl hQ' => ?_⟩
  rcases above hp hQ'.1 hl with l | l
  · rcases h with ⟨e, h⟩ | ⟨q, hq, hQ, hc, e, h⟩
    · have := h q' l hQ'; omega
    · have := h q' l hQ'; omega
  · subst l; exact Int.le_refl _
theorem BstI.cnt {F C : Nat → Int} {s : Nat} {b : Int} (h : BstI F C s 0 b) (h0 : 0 < s) (hC : ∀ t, t < s → IsCnt F t (C t)) : IsCnt F s b := by
  have hlt : ∀ q, Qt F s q → s - q < s := fun q hq => by have := hq.pos; have := hq.le; omega
  rcases h with ⟨e, h⟩ | ⟨q, hq, hQ, hc, e, h⟩
  · refine .inl ⟨e, fun j hj => ?_⟩
    cases j with
    | zero => exact absurd (show s = 0 from hj) (by omega)
    | succ j =>
      obtain ⟨q, hQ, hp⟩ := hj
      have hn := h q hQ.pos hQ
      rcases hC _ (hlt q hQ) with ⟨_, hno⟩ | ⟨i, ei, _⟩
      · exact hno j hp
      · omega
  · rcases hC _ (hlt q hQ) with ⟨e1, _⟩ | ⟨i, ei, hi, hmax⟩
    · omega
    · refine .inr ⟨i + 1, by omega, ⟨q, hQ, hi⟩, fun k hk => ?_⟩
      cases k with
      | zero => omega
      | succ k =>
        obtain ⟨q', hQ', hp'⟩ := hk
        have h1 := h q' hQ'.pos hQ'
        rcases hC _ (hlt q' hQ') with ⟨_, hno⟩ | ⟨i', ei', _, hm'⟩
        · exact absurd hp' (hno k)
        · have := hm' k hp'; omega
theorem Pt_le {F : Nat → Int} : ∀ {j s : Nat}, Pt F s j → j ≤ s
  | 0, _, _ => Nat.zero_le _
  | j + 1, s, h => by
    obtain ⟨q, hq, hp⟩ := h
    have := Pt_le hp
    have := hq.pos
    have := hq.le
    omega
theorem IsCnt.bd {F : Nat → Int} {s : Nat} {c : Int} (h : IsCnt F s c) : -1 ≤ c ∧ c ≤ s := by
  rcases h with ⟨e, _⟩ | ⟨j, e, hj, _⟩
  · omega
  · have := Pt_le hj; omega
def cntRow (C : Nat → Int) (k : Nat) : List Value := (List.range k).map fun s => Value.int .i64 (C s)
def updC (C : Nat → Int) (k : Nat) (b : Int) : Nat → Int := fun s => if s = k then b else C s
theorem cntRow_succ (C : Nat → Int) (k : Nat) (b : Int) : cntRow (updC C k b) (k + 1) = cntRow C k ++ [.int .i64 b] := by
  unfold cntRow
  rw [List.range_succ, List.map_append]
  congr 1
  · refine List.map_congr_left fun s hs => ?_
    have : s ≠ k := by have := List.mem_range.1 hs; omega
    unfold updC; rw [if_neg this]
  · simp [updC]
theorem updC_cnt {F C : Nat → Int} {k : Nat} {b : Int} (h : ∀ t, t < k → IsCnt F t (C t)) (hb : IsCnt F k b) : ∀ t, t < k + 1 → IsCnt F t (updC C k b t) := fun t ht => by
  unfold updC
  by_cases e : t = k
  · rw [if_pos e, e]; exact hb
  · rw [if_neg e]; exact h t (by omega)
set_option maxRecDepth 100000 in
set_option maxHeartbeats 16000000 in
theorem counts_any (F : Nat → Int) (ra : Option Addr) (n c : Nat) (f : Nat → Int) (hF : ∀ t, smS (bitR t) f n = F t) (w : World) (hr : IRow w ra n f) (hn : n ≤ 11) (hf : ∀ i, i < n → -1125899906842624 ≤ f i ∧ f i ≤ 1125899906842624) :
    Calls Tryd.prog 28 #[.slice ra n c] w fun e w' => Below w.heap.size w w' ∧ ∃ pa pc C, e = .returned (.slice pa (2 ^ n) pc) ∧ w'.ownsRow w.heap.size 3 1 (.slice pa (2 ^ n) pc) (2 ^ n) (cntRow C (2 ^ n)) ∧ ∀ t, t < 2 ^ n → IsCnt F t (C t) := by
  have hN : 2 ^ n ≤ 2048 := Nat.le_trans (Nat.pow_le_pow_right (by decide) hn) (by decide)
  have h0 := Nat.two_pow_pos n
  have hc := p2_cast n
  have HR := Lib.hid hr
  have CS := fun t (ht : t < 9223372036854775808) W (hw : Below w.heap.size w W) => Lib.hid (rSum_any ra n c f t W (hr.on hw) (by omega) hf ht)
  have kn : IntKind.u64.wrap (n : Int) = (n : Int) := IntWalk.u64_in _ (by omega)
  obtain ⟨i0, hi0, hz0, hz1, hz2⟩ := info_parts (show (Tryd.prog.info? 3).map (fun i => (i.zero, i.size, i.bytes)) = some (some (Value.int IntKind.i64 0), 1, 8) by kernel_rfl)
  have HI := Lib.hid (And.intro hi0 (And.intro hz0 (And.intro hz1 hz2)))
  have CS2 := fun t (ht : t < 9223372036854775808) W (hw : Below w.heap.size w W) => CS t ht W hw
  simp only [hF] at CS2
  have S0 : Hid (Below w.heap.size w (w.alloc (Obj.cells #[.int .i64 0] 3)) ∧ (w.alloc (Obj.cells #[.int .i64 0] 3)).ownsRow w.heap.size 3 1 (.slice (some ⟨w.heap.size, 0, none⟩) 1 1) 1 (cntRow (fun _ => 0) 1) ∧ ∀ t, t < 1 → IsCnt F t 0) := ⟨(Below.refl _ _).alloc (Nat.le_refl _) _, ⟨rfl, .inr ⟨w.heap.size, 1, #[.int .i64 0], rfl, Nat.le_refl _, heap_alloc_new w _, Nat.le_refl _, by unfold maxLen; omega, rfl, rfl⟩⟩, fun t ht => by
    rw [show t = 0 by omega]; exact isCnt_zero F⟩
  generalize hM : 2 ^ n = M at *
  have e1 : IntKind.i64.wrap (2 ^ n) = (M : Int) := by rw [hc, IntWalk.i64_in _ (by omega)]
  clear hr hf hM hc hi0 hz0 hz1 hz2 CS hF
  go_enter Tryd.func28, Tryd.ntmps28
  go_wp2_with fail
  go_loopg [4, 3] (M - 1) (fun g s4 s3 wx => ∃ (k : Nat) (C : Nat → Int), s4 = .int .i64 k ∧ g = M - k ∧ 0 < k ∧ k ≤ M ∧ Hid (Below w.heap.size w wx ∧ wx.ownsRow w.heap.size 3 1 s3 k (cntRow C k) ∧ ∀ t, t < k → IsCnt F t (C t)))
  case atStart => exact ⟨1, fun _ => 0, rfl, rfl, by decide, h0, S0⟩
  case round =>
    clear S0
    obtain ⟨k, C, rfl, rfl, hk0, hk, S⟩ := hrel
    rename World => W1
    obtain ⟨g, cp, rfl, hNR⟩ := own_nrow S.out.2.1 hk0
    have NR := Lib.hid hNR
    clear hNR
    by_cases hlt : k < M
    · have wk : IntKind.i64.wrap ((k : Int) + 1) = ((k + 1 : Nat) : Int) := by rw [IntWalk.i64_in _ (by omega)]; omega
      have w0 : IntKind.i64.wrap (0 - (k : Int)) = -(k : Int) := by rw [IntWalk.i64_in _ (by omega)]; omega
      have w01 : IntKind.i64.wrap (-(k : Int)) = -(k : Int) := IntWalk.i64_in _ (by omega)
      have wl := and_neg_i64 k hk0 (by omega)
      have hlow : lowS k ≤ k := Nat.and_le_left
      have HB := Lib.hid S.out.1
      have HC := Lib.hid S.out.2.2
      have OW := Lib.hid S.out.2.1
      have T0 : Hid (BstI F C k k (-1) ∧ k &&& k = k) := ⟨BstI.init F C k, Nat.and_self k⟩
      clear S
      go_wp2_with fail
      go_loopg [7, 5] (2 * k) (fun g' s7 s5 wx => ∃ (p : Nat) (b : Int), s7 = .int .i64 p ∧ s5 = .int .i64 b ∧ g' = 2 * p ∧ p ≤ k ∧ b ≤ 4096 ∧ wx = W1 ∧ Hid (BstI F C k p b ∧ p &&& k = p))
      case atStart => exact ⟨k, -1, rfl, rfl, rfl, Nat.le_refl _, by omega, rfl, T0⟩
      case round =>
        clear T0
        obtain ⟨p, b, rfl, rfl, rfl, hp, hb, rfl, T⟩ := hrel
        rename World => W2
        by_cases hp0 : 0 < p
        · have lp : (p : Int) > 0 := by omega
          obtain ⟨d, hd⟩ : ∃ d, d = k - p := ⟨_, rfl⟩
          have hdk : d < k := by omega
          have wd : IntKind.i64.wrap ((k : Int) - (p : Int)) = (d : Int) := by rw [IntWalk.i64_in _ (by omega)]; omega
          have ld : (d : Int) < (k : Int) := by omega
          have pd := NR.out.cell d hdk
          have ka := and_i64_nat p (lowS k) (by omega) (by omega)
          have wp1 : IntKind.i64.wrap ((p : Int) - 1) = ((p - 1 : Nat) : Int) := by rw [IntWalk.i64_in _ (by omega)]; omega
          have kb := and_i64_nat (p - 1) k (by omega) (by omega)
          have hlt2 : (p - 1) &&& k < p := Nat.lt_of_le_of_lt Nat.and_le_left (by omega)
          have hsub : ((p - 1) &&& k) &&& k = (p - 1) &&& k := by rw [Nat.and_assoc, Nat.and_self]
          have hCd := (HC.out d hdk).bd
          have hT := T.out.1
          have hTp := T.out.2
          have hlow2 := hT.low
          have KS := CS2 p (by omega) W2 HB.out
          have wc : IntKind.i64.wrap (C d + 1) = C d + 1 := IntWalk.i64_in _ (by omega)
          by_cases hA : p &&& lowS k = 0
          · have q1 : (((p &&& lowS k : Nat) : Int) != 0) = false := by rw [hA]; rfl
            have T2 := Lib.hid (hT.skip hTp hp0 (fun hQ => absurd hA hQ.2.1))
            clear hT T hA pd hd
            generalize p &&& lowS k = u at *
            generalize lowS k = lw at *
            generalize hv : (p - 1) &&& k = v at *
            go_wp2_with (simp only [ka, kb])
            go_roundg (2 * v)
            case measure => omega
            case rel => exact ⟨v, b, by rw [← hv], rfl, rfl, by omega, hb, rfl, T2.out, hsub⟩
          · have q1 : (((p &&& lowS k : Nat) : Int) != 0) = true := by simp; exact hA
            by_cases hFp : F p = 0
            · have q2 : (F p == 0) = true := by simp [hFp]
              have hQ : Qt F k p := ⟨hTp, hA, hFp⟩
              by_cases hC0 : C d < 0
              · have q3 : ¬ C d ≥ 0 := by omega
                have T2 := Lib.hid (hT.skip hTp hp0 (fun _ => .inl (by rw [← hd]; exact hC0)))
                have hbb : C d + 1 ≤ 4096 := by omega
                clear hT T hA hFp hd
                generalize F p = fp at *
                generalize C d = y at *
                generalize p &&& lowS k = u at *
                generalize lowS k = lw at *
                generalize hv : (p - 1) &&& k = v at *
                go_wp2_with (first
                  | (go_at_call 29; (with_reducible refine ((KS.out).mono ?_)); rintro e w3 ⟨rfl, rfl⟩))
                go_roundg (2 * v)
                case measure => omega
                case rel => exact ⟨v, b, by rw [← hv], rfl, rfl, by omega, by omega, rfl, T2.out, hsub⟩
              · have q3 : C d ≥ 0 := by omega
                by_cases hC1 : C d + 1 ≤ b
                · have q4 : ¬ C d + 1 > b := by omega
                  have T2 := Lib.hid (hT.skip hTp hp0 (fun _ => .inr (by rw [← hd]; exact hC1)))
                  have hbb : C d + 1 ≤ 4096 := by omega
                  clear hT T hA hFp hd
                  generalize F p = fp at *
                  generalize C d = y at *
                  generalize p &&& lowS k = u at *
                  generalize lowS k = lw at *
                  generalize hv : (p - 1) &&& k = v at *
                  go_wp2_with (first
                    | (go_at_call 29; (with_reducible refine ((KS.out).mono ?_)); rintro e w3 ⟨rfl, rfl⟩))
                  go_roundg (2 * v)
                  case measure => omega
                  case rel => exact ⟨v, b, by rw [← hv], rfl, rfl, by omega, by omega, rfl, T2.out, hsub⟩
                · have q4 : C d + 1 > b := by omega
                  have T2 := Lib.hid (hT.take hTp hp0 hQ (by rw [← hd]; omega) (by rw [← hd]; omega))
                  rw [← hd] at T2
                  have hbb : C d + 1 ≤ 4096 := by omega
                  clear hT T hA hFp hd
                  generalize F p = fp at *
                  generalize C d = y at *
                  generalize p &&& lowS k = u at *
                  generalize lowS k = lw at *
                  generalize hv : (p - 1) &&& k = v at *
                  go_wp2_with (first
                    | (go_at_call 29; (with_reducible refine ((KS.out).mono ?_)); rintro e w3 ⟨rfl, rfl⟩))
                  go_roundg (2 * v)
                  case measure => omega
                  case rel => exact ⟨v, (y + 1), by rw [← hv], rfl, rfl, by omega, by omega, rfl, T2.out, hsub⟩
            · have q2 : (F p == 0) = false := by simp [hFp]
              have T2 := Lib.hid (hT.skip hTp hp0 (fun hQ => absurd hQ.2.2 hFp))
              have hbb : C d + 1 ≤ 4096 := by omega
              clear hT T hA hFp hd
              generalize F p = fp at *
              generalize C d = y at *
              generalize p &&& lowS k = u at *
              generalize lowS k = lw at *
              generalize hv : (p - 1) &&& k = v at *
              go_wp2_with (first
                | (go_at_call 29; (with_reducible refine ((KS.out).mono ?_)); rintro e w3 ⟨rfl, rfl⟩))
              go_roundg (2 * v)
              case measure => omega
              case rel => exact ⟨v, b, by rw [← hv], rfl, rfl, by omega, by omega, rfl, T2.out, hsub⟩
        · have lp : ¬ (p : Int) > 0 := by omega
          have ep : p = 0 := by omega
          have hcnt : IsCnt F k b := by
            have := T.out.1
            rw [ep] at this
            exact this.cnt hk0 HC.out
          have hbl := hcnt.bd
          have U2 := Lib.hid (updC_cnt HC.out hcnt)
          have B5 : Hid (Below W2.heap.size W2 (W2.alloc (Obj.cells #[.int .i64 b] 3))) := (Below.refl _ _).alloc (Nat.le_refl _) _
          have O5 : Hid ((W2.alloc (Obj.cells #[.int .i64 b] 3)).ownsRow w.heap.size 3 1 (.slice (some ⟨g, 0, none⟩) k cp) k (cntRow C k)) := own_only OW.out (Only.of_below (S := fun _ => False) B5.out) (fun _ _ q => q)
          have A5 : Hid (∀ m u, [Value.int .i64 b][m]? = some u → (W2.alloc (Obj.cells #[.int .i64 b] 3)).cell? ((⟨W2.heap.size, 0, none⟩ : Addr).add m) = some u) := one_news (by simp [go_sem])
          have L5 : Hid (w.heap.size ≤ (W2.alloc (Obj.cells #[.int .i64 b] 3)).heap.size) := by
            show _ ≤ _
            have := B5.out.size
            have := HB.out.size
            simp
            omega
          clear T hcnt HC ep
          go_wp2_with (at_builtin; refine wpList_append_lies _ rfl _ _ 22 rfl w.heap.size 3 i0 (.int .i64 0) 1 8 Tryd.underlying22 HI.out.1 HI.out.2.1 HI.out.2.2.1 HI.out.2.2.2 rfl (by decide) _ _ _ rfl O5.out ⟨W2.heap.size, 0, none⟩ 1 1 [.int .i64 b] rfl rfl A5.out (by intro u hu; simp at hu; subst hu; rfl) (by omega) (by unfold maxLen; omega) (by omega) L5.out _ rfl ?_; intro q5 cap5 W5 hown hgrow hat hqlt)
          have hA := grown_only (Below.refl _ _) hgrow
          have TT : Hid (Below w.heap.size w W5 ∧ W5.ownsRow w.heap.size 3 1 (.slice (some ⟨q5, 0, none⟩) (k + 1) cap5) (k + 1) (cntRow (updC C k b) (k + 1)) ∧ ∀ t, t < k + 1 → IsCnt F t (updC C k b t)) := by
            rw [cntRow_succ]
            exact ⟨(below_on HB.out B5.out).trans (hA.below (below_on HB.out B5.out).size (fun c hc => (O5.out.lt c hc).1)), hown, U2.out⟩
          clear hown hgrow hat hqlt hA B5 O5 A5 L5
          go_roundg (M - (k + 1))
          case measure => omega
          case rel => exact ⟨k + 1, updC C k b, rfl, rfl, by omega, by omega, TT.out⟩
    · have e : k = M := by omega
      subst e
      have li : ¬ (k : Int) < (k : Int) := by omega
      go_wp2_with fail
      go_ret
      exact ⟨S.out.1, (some ⟨g, 0, none⟩), cp, rfl, C, S.out.2⟩
end Go.Proofs.YtjonhhmapbibaaaDoor
