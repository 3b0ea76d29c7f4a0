/- Layer 10: package reeving: the names of a system; whether they are names, and different. -/
import Derived.Test.YtcghjjfpjiacfaaDoorKV1
namespace Go.Proofs.YtcghjjfpjiacfaaDoor
open Go.ChangeShapes Go.WideShapes Go.ChangeAt Go.RowKit Go.Joins Go.Deep Go.Shelf
set_option linter.unusedVariables false

/-- The first k names are names, and different. -/
def NmOk (f : Nat → ByteArray) (n : Nat) : Prop := ∀ k, k < n → namB (f k).data.toList = true ∧ ∀ j, j < k → f j ≠ f k
theorem sys_nm_b (s : Sys) {k : Nat} (h : k < s.nb) : s.nm k = s.bn k := by unfold Sys.nm; rw [if_pos h]
theorem sys_nm_r (s : Sys) (k : Nat) : s.nm (s.nb + k) = (s.R k).name := by unfold Sys.nm; rw [if_neg (by omega), show s.nb + k - s.nb = k by omega]
set_option maxHeartbeats 4000000 in
theorem namesOf_any (ba : Option Addr) (nb bc : Nat) (bn : Nat → ByteArray) (bw : Nat → Int) (ra : Option Addr) (nr rc : Nat) (R : Nat → Rop) (f : Nat → ByteArray) (w : World) (hsb : BlkR w ba nb bn bw) (hsr : RopL w ra nr R) (hb : nb ≤ 100) (hr : nr ≤ 100)
    (hfb : ∀ k, k < nb → f k = bn k) (hfr : ∀ k, k < nr → f (nb + k) = (R k).name) :
    Calls Tryd.prog 60 #[.agg #[.slice ba nb bc, .slice ra nr rc]] w fun e w' => ∃ pa pc, e = .returned (.slice pa (nb + nr) pc) ∧ StrL w' pa (nb + nr) f ∧ Below w.heap.size w w' := by
  obtain ⟨w1, hw1⟩ : ∃ W, W = w.alloc (Obj.cells #[Value.slice ba nb bc, .slice ra nr rc] 36) := ⟨_, rfl⟩
  obtain ⟨xb, hxb⟩ : ∃ x, x = w.heap.size := ⟨_, rfl⟩
  have hC : C2 w1 xb (.slice ba nb bc) (.slice ra nr rc) := by rw [hw1, hxb]; exact C2.new _ _ _ _
  have hB : Below w.heap.size w w1 := by rw [hw1]; exact (Below.refl _ _).alloc (Nat.le_refl _) _
  have HB := Lib.hid hB
  have S0 : Hid (Below w1.heap.size w1 w1 ∧ StO w1 w1.heap.size (.slice none 0 0) 0 f) := ⟨Below.refl _ _, StO.start _ _ _⟩
  have HF := Lib.hid (And.intro hfb hfr)
  have HL := Lib.hid (And.intro (hsb.on hB) (hsr.on hB))
  have HC := Lib.hid hC
  clear hsb hsr hC hB hfb hfr
  go_enter Tryd.func60, Tryd.ntmps60
  go_upto_region 1 with fail
  rw [← hxb, ← hw1]
  clear hxb hw1
  have c0 := HC.out.c0
  go_wp2_with fail
  clear c0
  go_loopg [3, 11] nb (fun mm s3 s11 wx => ∃ k : Nat, s11 = .int .i64 (k : Int) ∧ mm = nb - k ∧ k ≤ nb ∧ Hid (Below w1.heap.size w1 wx ∧ StO wx w1.heap.size s3 k f))
  case atStart => exact ⟨0, rfl, rfl, Nat.zero_le _, S0⟩
  case round =>
    clear S0
    obtain ⟨k, rfl, rfl, hk, S⟩ := hrel
    rename World => W1
    obtain ⟨pa, pc, hpv⟩ := own_form S.out.2
    subst hpv
    by_cases hlt : k < nb
    · have lk : (k : Int) < (nb : Int) := by omega
      have wk : IntKind.i64.wrap ((k : Int) + 1) = ((k + 1 : Nat) : Int) := by rw [IntWalk.i64_in _ (by omega)]; omega
      obtain ⟨b, o, rfl, hbk, hck⟩ := HL.out.1 (by omega)
      have HT := Lib.hid (And.intro hbk hck)
      clear hbk hck
      have p1 := (S.out.1.cell (p := ⟨b, o + k * 2, none⟩) HT.out.1).trans (HT.out.2 k hlt).1
      have p2 := (S.out.1.cell (p := ⟨b, o + k * 2 + 1, none⟩) HT.out.1).trans (HT.out.2 k hlt).2
      go_upto_region 5 with fail
      obtain ⟨W2, hW2⟩ : ∃ W, W = W1.alloc (Obj.cells #[.string (bn k), .int .i64 (bw k)] 55) := ⟨_, rfl⟩
      obtain ⟨b5, hb5⟩ : ∃ x, x = W1.heap.size := ⟨_, rfl⟩
      have hCb5 : C2 W2 b5 (.string (bn k)) (.int .i64 (bw k)) := by rw [hW2, hb5]; exact C2.new _ _ _ _
      have HBb5 : Hid (Below W1.heap.size W1 W2) := by rw [hW2]; exact (Below.refl _ _).alloc (Nat.le_refl _) _
      rw [← hW2, ← hb5]
      clear hW2 hb5
      have c0 := hCb5.c0
      have S2 : Hid (Below w1.heap.size w1 W2 ∧ StO W2 w1.heap.size (.slice pa k pc) k f) := ⟨below_on S.out.1 HBb5.out, S.out.2.on HBb5.out⟩
      clear p1 p2 hCb5 HBb5 S
      have B3 : Hid (Below W2.heap.size W2 (W2.alloc (Obj.cells #[.string (bn k)] 9))) := (Below.refl _ _).alloc (Nat.le_refl _) _
      have O3 := Lib.hid (S2.out.2.on B3.out)
      have A3 := Lib.hid (show (W2.alloc (Obj.cells #[.string (bn k)] 9)).cell? ⟨W2.heap.size, 0, none⟩ = some (.string (bn k)) from by simp)
      have L3 : Hid (w1.heap.size ≤ (W2.alloc (Obj.cells #[.string (bn k)] 9)).heap.size) := Nat.le_trans S2.out.1.size B3.out.size
      have E3 := Lib.hid (show (bn k) = f (k) from (HF.out.1 k hlt).symm)
      go_upto_region 6 with (at_builtin; refine wpList_app_str _ rfl rfl _ _ rfl w1.heap.size (k) _ f rfl O3.out ⟨W2.heap.size, 0, none⟩ 1 rfl (by rw [← E3.out]; exact A3.out) (by omega) L3.out ?_; intro g3 cap3 W3 hown hgrow)
      have S3 : Hid (Below w1.heap.size w1 W3 ∧ StO W3 w1.heap.size (.slice (some ⟨g3, 0, none⟩) (k + 1) cap3) (k + 1) f) := ⟨below_own (w := w1) (below_on S2.out.1 B3.out) O3.out hgrow, hown⟩
      clear hown hgrow B3 O3 A3 L3 E3
      clear c0 S2
      go_wp2_with fail
      go_roundg (nb - (k + 1))
      case measure => omega
      case rel => exact ⟨k + 1, rfl, rfl, by omega, S3⟩
    · have lk : ¬ (k : Int) < (nb : Int) := by omega
      have e : k = nb := by omega
      subst e
      have c1 := (S.out.1.cell (p := ⟨xb, 1, none⟩) HC.out.lt).trans HC.out.c1
      have T0 : Hid (Below w1.heap.size w1 W1 ∧ StO W1 w1.heap.size (.slice pa k pc) (k + 0) f) := S.out
      clear S lk hk hlt
      go_wp2_with fail
      clear c1
      go_loopg [3, 24] nr (fun mm s3 s24 wx => ∃ i : Nat, s24 = .int .i64 (i : Int) ∧ mm = nr - i ∧ i ≤ nr ∧ Hid (Below w1.heap.size w1 wx ∧ StO wx w1.heap.size s3 (k + i) f))
      case atStart => exact ⟨0, rfl, rfl, Nat.zero_le _, T0⟩
      case round =>
        clear T0
        obtain ⟨i, rfl, rfl, hi, S⟩ := hrel
        rename World => W1
        obtain ⟨pa, pc, hpv⟩ := own_form S.out.2
        subst hpv
        by_cases hlt : i < nr
        · have lk : (i : Int) < (nr : Int) := by omega
          have wk : IntKind.i64.wrap ((i : Int) + 1) = ((i + 1 : Nat) : Int) := by rw [IntWalk.i64_in _ (by omega)]; omega
          obtain ⟨b, o, rfl, hbk, hck⟩ := HL.out.2 (by omega)
          have HT := Lib.hid (And.intro hbk hck)
          clear hbk hck
          have p1 := (S.out.1.cell (p := ⟨b, o + i * 3, none⟩) HT.out.1).trans (HT.out.2 i hlt).1
          have p2 := (S.out.1.cell (p := ⟨b, o + i * 3 + 1, none⟩) HT.out.1).trans (HT.out.2 i hlt).2.1
          have p3 := (S.out.1.cell (p := ⟨b, o + i * 3 + 2, none⟩) HT.out.1).trans (HT.out.2 i hlt).2.2
          go_upto_region 10 with fail
          obtain ⟨W2, hW2⟩ : ∃ W, W = W1.alloc (Obj.cells #[.string (R i).name, .slice (R i).ha (R i).n (R i).hc, .bool (R i).hauled] 58) := ⟨_, rfl⟩
          obtain ⟨b5, hb5⟩ : ∃ x, x = W1.heap.size := ⟨_, rfl⟩
          have hCb5 : C3 W2 b5 (.string (R i).name) (.slice (R i).ha (R i).n (R i).hc) (.bool (R i).hauled) := by rw [hW2, hb5]; exact C3.new _ _ _ _ _
          have HBb5 : Hid (Below W1.heap.size W1 W2) := by rw [hW2]; exact (Below.refl _ _).alloc (Nat.le_refl _) _
          rw [← hW2, ← hb5]
          clear hW2 hb5
          have c0 := hCb5.c0
          have S2 : Hid (Below w1.heap.size w1 W2 ∧ StO W2 w1.heap.size (.slice pa (k + i) pc) (k + i) f) := ⟨below_on S.out.1 HBb5.out, S.out.2.on HBb5.out⟩
          clear p1 p2 p3 hCb5 HBb5 S
          have B3 : Hid (Below W2.heap.size W2 (W2.alloc (Obj.cells #[.string (R i).name] 9))) := (Below.refl _ _).alloc (Nat.le_refl _) _
          have O3 := Lib.hid (S2.out.2.on B3.out)
          have A3 := Lib.hid (show (W2.alloc (Obj.cells #[.string (R i).name] 9)).cell? ⟨W2.heap.size, 0, none⟩ = some (.string (R i).name) from by simp)
          have L3 : Hid (w1.heap.size ≤ (W2.alloc (Obj.cells #[.string (R i).name] 9)).heap.size) := Nat.le_trans S2.out.1.size B3.out.size
          have E3 := Lib.hid (show (R i).name = f (k + i) from (HF.out.2 i hlt).symm)
          go_upto_region 11 with (at_builtin; refine wpList_app_str _ rfl rfl _ _ rfl w1.heap.size (k + i) _ f rfl O3.out ⟨W2.heap.size, 0, none⟩ 1 rfl (by rw [← E3.out]; exact A3.out) (by omega) L3.out ?_; intro g3 cap3 W3 hown hgrow)
          have S3 : Hid (Below w1.heap.size w1 W3 ∧ StO W3 w1.heap.size (.slice (some ⟨g3, 0, none⟩) (k + i + 1) cap3) (k + i + 1) f) := ⟨below_own (w := w1) (below_on S2.out.1 B3.out) O3.out hgrow, hown⟩
          clear hown hgrow B3 O3 A3 L3 E3
          clear c0 S2
          go_wp2_with fail
          go_roundg (nr - (i + 1))
          case measure => omega
          case rel => exact ⟨i + 1, rfl, rfl, by omega, S3⟩
        · have lk : ¬ (i : Int) < (nr : Int) := by omega
          have e : i = nr := by omega
          subst e
          have R2 : Hid (Below w.heap.size w W1 ∧ StrL W1 pa (k + i) f) := ⟨below_on HB.out S.out.1, S.out.2.strl⟩
          clear S
          go_wp2_with fail
          go_ret
          exact ⟨pa, ⟨pc, rfl⟩, R2.out.2, R2.out.1⟩
theorem nmok_step {f : Nat → ByteArray} {n k : Nat} (hk : k < n) (h : ¬ (namB (f k).data.toList = true ∧ ∀ j, j < k → f j ≠ f k)) : ¬ NmOk f n := fun q => h (q k hk)
set_option maxHeartbeats 4000000 in
theorem areNames_any (ra : Option Addr) (n rc : Nat) (f : Nat → ByteArray) (w : World) (hl : StrL w ra n f) (hs : ∀ i, i < n → (f i).size ≤ 1000) (hn : n ≤ 200) (v : Bool) (hv : v = true ↔ NmOk f n) :
    Calls Tryd.prog 59 #[.slice ra n rc] w fun e w' => e = .returned (.bool v) ∧ Below w.heap.size w w' := by
  have hmm := @run_makeMap Tryd.prog
  have HS := Lib.hid hs
  have HL := Lib.hid hl
  have HV := Lib.hid hv
  obtain ⟨mb, hmb⟩ : ∃ x, x = w.heap.size := ⟨_, rfl⟩
  obtain ⟨w0, hw0⟩ : ∃ W, W = w.alloc (.map #[] 0) := ⟨_, rfl⟩
  have S0 : Hid (MtM w0 mb f 0 ∧ Below w.heap.size w w0 ∧ NmOk f 0) := ⟨by rw [hmb, hw0]; exact MtM.made w f, by rw [hw0]; exact (Below.refl _ _).alloc (Nat.le_refl _) _, fun k hk => by omega⟩
  have HM : Hid (mb = w.heap.size ∧ w0 = w.alloc (.map #[] 0)) := ⟨hmb, hw0⟩
  clear hmb hw0 hs hl hv
  go_enter Tryd.func59, Tryd.ntmps59
  go_upto_region 2 with fail
  rw [← HM.out.2, ← HM.out.1]
  go_wp2_with fail
  go_loopg [9] n (fun mm s9 wx => ∃ k : Nat, s9 = .int .i64 (k : Int) ∧ mm = n - k ∧ k ≤ n ∧ Hid (MtM wx mb f k ∧ Below w.heap.size w wx ∧ NmOk f k))
  case atStart => exact ⟨0, rfl, rfl, Nat.zero_le _, S0⟩
  case round =>
    clear S0
    obtain ⟨k, rfl, rfl, hk, S⟩ := hrel
    rename World => W1
    by_cases hlt : k < n
    · have lk : (k : Int) < (n : Int) := by omega
      have wk : IntKind.i64.wrap ((k : Int) + 1) = ((k + 1 : Nat) : Int) := by rw [IntWalk.i64_in _ (by omega)]; omega
      obtain ⟨b, o, rfl, hbk, hck⟩ := HL.out (by omega)
      have p1 := (S.out.2.1.cell (p := ⟨b, o + k, none⟩) hbk).trans (hck k hlt)
      have hz := HS.out k hlt
      have hno : ¬ (namB (f k).data.toList = true ∧ ∀ j, j < k → f j ≠ f k) → v = false := fun h => by
        cases e : v
        · rfl
        · exact absurd (HV.out.1 e) (nmok_step hlt h)
      have hyes : (namB (f k).data.toList = true ∧ ∀ j, j < k → f j ≠ f k) → NmOk f (k + 1) := fun h i hi => by
        by_cases e : i = k
        · rw [e]; exact h
        · exact S.out.2.2 i (by omega)
      have hlk := lstI_kn f (f k) k
      obtain ⟨t, ht⟩ : ∃ t, (lstI f (f k) k).isSome = t := ⟨_, rfl⟩
      rw [ht] at hlk
      have HTT := Lib.hid ht
      clear hbk hck ht HL
      cases t
      · have hd : ∀ j, j < k → f j ≠ f k := fun j hj e => by
          have := knB_iff.2 ⟨j, hj, e⟩
          rw [← hlk] at this
          cases this
        cases hnm : namB (f k).data.toList
        · have e : v = false := hno (fun h => by rw [hnm] at h; cases h.1)
          subst e
          have CN := fun W => Lib.hid (IsName_nam (f k) W hz)
          rw [hnm] at CN
          clear hno hyes hlk hd hnm HV
          go_wp2_with (first
            | (at_lookup; refine wpList_mtm _ rfl rfl _ _ rfl mb k f rfl S.out.1 (f k) rfl (by unfold maxLen; omega) false HTT.out ?_)
            | (go_at_call 95; (with_reducible refine ((CN _).out.mono ?_)); rintro e w2 ⟨rfl, rfl⟩))
          go_ret
          exact ⟨rfl, S.out.2.1⟩
        · have HY := Lib.hid (hyes ⟨hnm, hd⟩)
          have CN := fun W => Lib.hid (IsName_nam (f k) W hz)
          rw [hnm] at CN
          clear hno hyes hlk hd hnm
          go_wp2_with (first
            | (at_lookup; refine wpList_mtm _ rfl rfl _ _ rfl mb k f rfl S.out.1 (f k) rfl (by unfold maxLen; omega) false HTT.out ?_)
            | (at_mapUpdate; refine wpList_mtm_put _ rfl rfl _ _ _ rfl mb k f rfl S.out.1 rfl rfl (by unfold maxLen; omega) (by omega) ?_; intro W3 hix hgrow)
            | (go_at_call 95; (with_reducible refine ((CN _).out.mono ?_)); rintro e w2 ⟨rfl, rfl⟩))
          have S2 : Hid (MtM W3 mb f (k + 1) ∧ Below w.heap.size w W3 ∧ NmOk f (k + 1)) := ⟨hix, below_blk S.out.2.1 hgrow (by rw [HM.out.1]; exact Nat.le_refl _), HY.out⟩
          clear hix hgrow p1 HY
          go_wp2_with fail
          go_roundg (n - (k + 1))
          case measure => omega
          case rel => exact ⟨k + 1, rfl, rfl, by omega, S2⟩
      · have e : v = false := hno (fun h => by
          obtain ⟨j, hj, e⟩ := knB_iff.1 hlk.symm
          exact h.2 j hj e)
        subst e
        clear hno hyes hlk HV
        go_wp2_with (first
          | (at_lookup; refine wpList_mtm _ rfl rfl _ _ rfl mb k f rfl S.out.1 (f k) rfl (by unfold maxLen; omega) true HTT.out ?_))
        go_ret
        exact ⟨rfl, S.out.2.1⟩
    · have lk : ¬ (k : Int) < (n : Int) := by omega
      have e : k = n := by omega
      subst e
      have e : v = true := HV.out.2 S.out.2.2
      subst e
      clear HV HL
      go_wp2_with fail
      go_ret
      exact ⟨rfl, S.out.2.1⟩
end Go.Proofs.YtcghjjfpjiacfaaDoor
