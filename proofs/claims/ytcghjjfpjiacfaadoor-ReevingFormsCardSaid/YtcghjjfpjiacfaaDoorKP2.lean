/- Layer 10: package reeving: Weights, Hauled, Parts. -/
import Derived.Test.YtcghjjfpjiacfaaDoorKP1
namespace Go.Proofs.YtcghjjfpjiacfaaDoor
open Go.ChangeShapes Go.WideShapes Go.ChangeAt Go.RowKit Go.Joins Go.Deep Go.Shelf
set_option linter.unusedVariables false

set_option maxHeartbeats 4000000 in
theorem kWeights_bad (s : Sys) (w : World) (hs : s.At w) (hsm : SysSm s) (hrg : SysRg s) (ho : ¬ SysOk s) :
    Calls Tryd.prog 23 #[.agg #[.slice s.ba s.nb s.bc, .slice s.ra s.nr s.rc]] w fun e w' => e = .returned (.tuple #[.slice none 0 0, .int .i64 1]) ∧ Below w.heap.size w w' := by
  obtain ⟨w1, hw1⟩ : ∃ W, W = w.alloc (Obj.cells #[Value.slice s.ba s.nb s.bc, .slice s.ra s.nr s.rc] 36) := ⟨_, rfl⟩
  obtain ⟨xb, hxb⟩ : ∃ x, x = w.heap.size := ⟨_, rfl⟩
  have hC : C2 w1 xb (.slice s.ba s.nb s.bc) (.slice s.ra s.nr s.rc) := by rw [hw1, hxb]; exact C2.new _ _ _ _
  have hB : Below w.heap.size w w1 := by rw [hw1]; exact (Below.refl _ _).alloc (Nat.le_refl _) _
  have HB := Lib.hid hB
  have CV : Hid (Calls Tryd.prog 18 #[.agg #[.slice s.ba s.nb s.bc, .slice s.ra s.nr s.rc]] w1 fun e w' => e = .returned (.bool false) ∧ Below w1.heap.size w1 w') := kValid_any s w1 (hs.on hB) hsm hrg false ⟨fun h => (by cases h), fun h => absurd h ho⟩
  have c0 := hC.c0
  have c1 := hC.c1
  clear hs hC hB hsm hrg ho
  go_enter Tryd.func23, Tryd.ntmps23
  go_upto_region 1 with fail
  rw [← hxb, ← hw1]
  clear hxb hw1
  go_wp2_with (go_at_call 18; (with_reducible refine (CV.out.mono ?_)); rintro e w2 ⟨rfl, hb2⟩; have HB2 := Lib.hid (below_on HB.out hb2); clear hb2)
  go_ret2
  exact ⟨rfl, HB2.out⟩
set_option maxHeartbeats 4000000 in
theorem kHauled_bad (s : Sys) (w : World) (hs : s.At w) (hsm : SysSm s) (hrg : SysRg s) (ho : ¬ SysOk s) :
    Calls Tryd.prog 25 #[.agg #[.slice s.ba s.nb s.bc, .slice s.ra s.nr s.rc]] w fun e w' => e = .returned (.tuple #[.slice none 0 0, .int .i64 1]) ∧ Below w.heap.size w w' := by
  obtain ⟨w1, hw1⟩ : ∃ W, W = w.alloc (Obj.cells #[Value.slice s.ba s.nb s.bc, .slice s.ra s.nr s.rc] 36) := ⟨_, rfl⟩
  obtain ⟨xb, hxb⟩ : ∃ x, x = w.heap.size := ⟨_, rfl⟩
  have hC : C2 w1 xb (.slice s.ba s.nb s.bc) (.slice s.ra s.nr s.rc) := by rw [hw1, hxb]; exact C2.new _ _ _ _
  have hB : Below w.heap.size w w1 := by rw [hw1]; exact (Below.refl _ _).alloc (Nat.le_refl _) _
  have HB := Lib.hid hB
  have CV : Hid (Calls Tryd.prog 18 #[.agg #[.slice s.ba s.nb s.bc, .slice s.ra s.nr s.rc]] w1 fun e w' => e = .returned (.bool false) ∧ Below w1.heap.size w1 w') := kValid_any s w1 (hs.on hB) hsm hrg false ⟨fun h => (by cases h), fun h => absurd h ho⟩
  have c0 := hC.c0
  have c1 := hC.c1
  clear hs hC hB hsm hrg ho
  go_enter Tryd.func25, Tryd.ntmps25
  go_upto_region 1 with fail
  rw [← hxb, ← hw1]
  clear hxb hw1
  go_wp2_with (go_at_call 18; (with_reducible refine (CV.out.mono ?_)); rintro e w2 ⟨rfl, hb2⟩; have HB2 := Lib.hid (below_on HB.out hb2); clear hb2)
  go_ret2
  exact ⟨rfl, HB2.out⟩
/-- The first i places of a list are filled, the others are 0. -/
def filI (f : Nat → Int) (i : Nat) : Nat → Int := fun j => if j < i then f j else 0
theorem NRow.fil {lo n : Nat} {W : World} {g cp : Nat} {f : Nat → Int} {i : Nat} (h : NRow lo n W g cp (filI f i)) (hi : i < n) : NRow lo n (W.setCell ⟨g, i, none⟩ (.int .i64 (f i))) g cp (filI f (i + 1)) :=
  h.set i (f i) hi (by unfold filI; rw [if_pos (by omega)]) (fun l hl hne => by
    unfold filI
    by_cases e : l < i
    · rw [if_pos (by omega), if_pos e]
    · rw [if_neg (by omega), if_neg e])
theorem NRow.filled {lo n : Nat} {W : World} {g cp : Nat} {f : Nat → Int} (h : NRow lo n W g cp (filI f n)) : NRow lo n W g cp f := h.cong (fun l hl => by unfold filI; rw [if_pos hl])
set_option maxRecDepth 100000 in
set_option maxHeartbeats 8000000 in
theorem kWeights_ok (s : Sys) (w : World) (hs : s.At w) (hsm : SysSm s) (hrg : SysRg s) (ho : SysOk s) :
    Calls Tryd.prog 23 #[.agg #[.slice s.ba s.nb s.bc, .slice s.ra s.nr s.rc]] w fun e w' => ∃ g, e = .returned (.tuple #[.slice (some ⟨g, 0, none⟩) s.nb s.nb, .int .i64 0]) ∧ NRow w.heap.size s.nb w' g s.nb (s.bw) ∧ Below w.heap.size w w' := by
  have hb9 := hsm.b
  have hr9 := hsm.r
  have hb1 := ho.b1
  have hr1 := ho.r1
  obtain ⟨w1, hw1⟩ : ∃ W, W = w.alloc (Obj.cells #[Value.slice s.ba s.nb s.bc, .slice s.ra s.nr s.rc] 36) := ⟨_, rfl⟩
  obtain ⟨xb, hxb⟩ : ∃ x, x = w.heap.size := ⟨_, rfl⟩
  have hC : C2 w1 xb (.slice s.ba s.nb s.bc) (.slice s.ra s.nr s.rc) := by rw [hw1, hxb]; exact C2.new _ _ _ _
  have hB : Below w.heap.size w w1 := by rw [hw1]; exact (Below.refl _ _).alloc (Nat.le_refl _) _
  have HB := Lib.hid hB
  have CV : Hid (Calls Tryd.prog 18 #[.agg #[.slice s.ba s.nb s.bc, .slice s.ra s.nr s.rc]] w1 fun e w' => e = .returned (.bool true) ∧ Below w1.heap.size w1 w') := kValid_any s w1 (hs.on hB) hsm hrg true ⟨fun _ => ho, fun _ => rfl⟩
  obtain ⟨rb, ro, hre, hrb, hrc⟩ := (hs.on hB).r.l (by omega)
  obtain ⟨bb, bo, hbe, hbb, hbc⟩ := (hs.on hB).b (by omega)
  rw [hre, hbe] at hC hw1 CV
  rw [hre, hbe]
  have hcap := hrg.rc
  have HS := Lib.hid (hs.on hB)
  have HC := Lib.hid hC
  have HP := Lib.hid (And.intro hsm (And.intro hrg ho))
  have c0 := hC.c0
  have c1 := hC.c1
  obtain ⟨nb, hnb⟩ : ∃ x, s.nb = x := ⟨_, rfl⟩
  obtain ⟨nr, hnr⟩ : ∃ x, s.nr = x := ⟨_, rfl⟩
  have HNB := Lib.hid (And.intro hnb hnr)
  rw [hnb] at hb9 hb1 c0 CV hw1 hbc
  rw [hnr] at hr9 hr1 c1 CV hw1 hrc hcap
  rw [hnb, hnr]
  have HT := Lib.hid (And.intro hrb hrc)
  have HU := Lib.hid (And.intro hbb hbc)
  clear hs hC hB hsm hrg ho hnb hnr hre hrb hrc hbe hbb hbc
  go_enter Tryd.func23, Tryd.ntmps23
  go_upto_region 1 with fail
  rw [← hxb, ← hw1]
  clear hxb hw1
  go_upto_region 3 with (go_at_call 18; (with_reducible refine (CV.out.mono ?_)); rintro e w2 ⟨rfl, hb2⟩; have HB2 := Lib.hid hb2; clear hb2)
  clear c0 c1 CV
  have c0 := (HB2.out.cell (p := ⟨xb, 0, none⟩) HC.out.lt).trans HC.out.c0
  have c1 := (HB2.out.cell (p := ⟨xb, 1, none⟩) HC.out.lt).trans HC.out.c1
  rw [HNB.out.1] at c0
  rw [HNB.out.2] at c1
  obtain ⟨i0, hi0, hz0, hz1, hz2⟩ := info_parts (show (Tryd.prog.info? 3).map (fun i => (i.zero, i.size, i.bytes)) = some (some (Value.int IntKind.i64 0), 1, 8) by kernel_rfl)
  go_upto_region 4 with (refine wpList_make_full _ rfl _ _ 43 rfl w2.heap.size 3 i0 (.int .i64 0) 1 Tryd.underlying43 hi0 hz0 hz1 _ _ _ _ nb rfl rfl rfl rfl (by rw [hz2]; omega) (by unfold maxLen; omega) (Nat.le_refl _) ?_; intro w3 ho hg)
  have hb3 : Below w2.heap.size w2 w3 := ⟨hg.os, hg.tape, hg.output, hg.size, fun k hk => hg.block k hk (by simp)⟩
  obtain ⟨g, hgg⟩ : ∃ x, x = w2.heap.size := ⟨_, rfl⟩
  rw [← hgg] at ho
  have S0 : Hid (NRow w1.heap.size nb w3 g nb (filI (s.bw) 0) ∧ Below w1.heap.size w1 w3) := ⟨(NRow.made ho w1.heap.size (by rw [hgg]; exact HB2.out.size)).cong (fun l _ => by unfold filI; rw [if_neg (by omega)]), below_on HB2.out hb3⟩
  rw [← hgg]
  clear ho hg hb3 hgg hi0 hz0 hz1 hz2 i0 c0 c1 HB2
  have c0 := (S0.out.2.cell (p := ⟨xb, 0, none⟩) HC.out.lt).trans HC.out.c0
  rw [HNB.out.1] at c0
  go_wp2_with fail
  clear c0
  go_loopg [17] nb (fun mm s17 wx => ∃ i : Nat, s17 = .int .i64 (i : Int) ∧ mm = nb - i ∧ i ≤ nb ∧ Hid (NRow w1.heap.size nb wx g nb (filI s.bw i) ∧ Below w1.heap.size w1 wx))
  case atStart => exact ⟨0, rfl, rfl, Nat.zero_le _, S0⟩
  case round =>
    clear S0
    obtain ⟨i, rfl, rfl, hi, S⟩ := hrel
    rename World => W1
    by_cases hlt : i < nb
    · have li : (i : Int) < (nb : Int) := by omega
      have wi : IntKind.i64.wrap ((i : Int) + 1) = ((i + 1 : Nat) : Int) := by rw [IntWalk.i64_in _ (by omega)]; omega
      have p1 := (S.out.2.cell (p := ⟨bb, bo + i * 2, none⟩) HU.out.1).trans (HU.out.2 i hlt).1
      have p2 := (S.out.2.cell (p := ⟨bb, bo + i * 2 + 1, none⟩) HU.out.1).trans (HU.out.2 i hlt).2
      go_upto_region 7 with fail
      obtain ⟨W2, hW2⟩ : ∃ W, W = W1.alloc (Obj.cells #[.string (s.bn i), .int .i64 (s.bw i)] 55) := ⟨_, rfl⟩
      obtain ⟨b6, hb6⟩ : ∃ x, x = W1.heap.size := ⟨_, rfl⟩
      have hCb6 : C2 W2 b6 (.string (s.bn i)) (.int .i64 (s.bw i)) := by rw [hW2, hb6]; exact C2.new _ _ _ _
      have HBb6 : Hid (Below W1.heap.size W1 W2) := by rw [hW2]; exact (Below.refl _ _).alloc (Nat.le_refl _) _
      rw [← hW2, ← hb6]
      clear hW2 hb6
      have c1 := hCb6.c1
      have S2 := Lib.hid (And.intro (S.out.1.on HBb6.out) (below_on S.out.2 HBb6.out))
      clear p1 p2 hCb6 HBb6 S
      have z0 := S2.out.1.cell i hlt
      have y0 := S2.out.1.fz i hlt
      have yl := S2.out.1.hb
      have S3 := Lib.hid (And.intro (S2.out.1.fil hlt) (S2.out.2.setCell (p := ⟨g, i, none⟩) S2.out.1.lo (.int .i64 (s.bw i))))
      go_wp2_with fail
      go_roundg (nb - (i + 1))
      case measure => omega
      case rel => exact ⟨i + 1, rfl, rfl, by omega, S3⟩
    · have li : ¬ (i : Int) < (nb : Int) := by omega
      have e : nb = i := by omega
      subst e
      have R0 : Hid (NRow w.heap.size nb W1 g nb s.bw ∧ Below w.heap.size w W1) := ⟨S.out.1.filled.mono HB.out.size, below_on HB.out S.out.2⟩
      clear S
      go_wp2_with fail
      go_ret2
      exact ⟨g, rfl, R0.out⟩
set_option maxRecDepth 100000 in
set_option maxHeartbeats 8000000 in
theorem kHauled_ok (s : Sys) (w : World) (hs : s.At w) (hsm : SysSm s) (hrg : SysRg s) (ho : SysOk s) :
    Calls Tryd.prog 25 #[.agg #[.slice s.ba s.nb s.bc, .slice s.ra s.nr s.rc]] w fun e w' => ∃ g, e = .returned (.tuple #[.slice (some ⟨g, 0, none⟩) s.nr s.nr, .int .i64 0]) ∧ NRow w.heap.size s.nr w' g s.nr (fun k => if (s.R k).hauled then 1 else 0) ∧ Below w.heap.size w w' := by
  have hb9 := hsm.b
  have hr9 := hsm.r
  have hb1 := ho.b1
  have hr1 := ho.r1
  obtain ⟨w1, hw1⟩ : ∃ W, W = w.alloc (Obj.cells #[Value.slice s.ba s.nb s.bc, .slice s.ra s.nr s.rc] 36) := ⟨_, rfl⟩
  obtain ⟨xb, hxb⟩ : ∃ x, x = w.heap.size := ⟨_, rfl⟩
  have hC : C2 w1 xb (.slice s.ba s.nb s.bc) (.slice s.ra s.nr s.rc) := by rw [hw1, hxb]; exact C2.new _ _ _ _
  have hB : Below w.heap.size w w1 := by rw [hw1]; exact (Below.refl _ _).alloc (Nat.le_refl _) _
  have HB := Lib.hid hB
  have CV : Hid (Calls Tryd.prog 18 #[.agg #[.slice s.ba s.nb s.bc, .slice s.ra s.nr s.rc]] w1 fun e w' => e = .returned (.bool true) ∧ Below w1.heap.size w1 w') := kValid_any s w1 (hs.on hB) hsm hrg true ⟨fun _ => ho, fun _ => rfl⟩
  obtain ⟨rb, ro, hre, hrb, hrc⟩ := (hs.on hB).r.l (by omega)
  obtain ⟨bb, bo, hbe, hbb, hbc⟩ := (hs.on hB).b (by omega)
  rw [hre, hbe] at hC hw1 CV
  rw [hre, hbe]
  have hcap := hrg.rc
  have HS := Lib.hid (hs.on hB)
  have HC := Lib.hid hC
  have HP := Lib.hid (And.intro hsm (And.intro hrg ho))
  have c0 := hC.c0
  have c1 := hC.c1
  obtain ⟨nb, hnb⟩ : ∃ x, s.nb = x := ⟨_, rfl⟩
  obtain ⟨nr, hnr⟩ : ∃ x, s.nr = x := ⟨_, rfl⟩
  have HNB := Lib.hid (And.intro hnb hnr)
  rw [hnb] at hb9 hb1 c0 CV hw1 hbc
  rw [hnr] at hr9 hr1 c1 CV hw1 hrc hcap
  rw [hnb, hnr]
  have HT := Lib.hid (And.intro hrb hrc)
  have HU := Lib.hid (And.intro hbb hbc)
  clear hs hC hB hsm hrg ho hnb hnr hre hrb hrc hbe hbb hbc
  go_enter Tryd.func25, Tryd.ntmps25
  go_upto_region 1 with fail
  rw [← hxb, ← hw1]
  clear hxb hw1
  go_upto_region 3 with (go_at_call 18; (with_reducible refine (CV.out.mono ?_)); rintro e w2 ⟨rfl, hb2⟩; have HB2 := Lib.hid hb2; clear hb2)
  clear c0 c1 CV
  have c0 := (HB2.out.cell (p := ⟨xb, 0, none⟩) HC.out.lt).trans HC.out.c0
  have c1 := (HB2.out.cell (p := ⟨xb, 1, none⟩) HC.out.lt).trans HC.out.c1
  rw [HNB.out.1] at c0
  rw [HNB.out.2] at c1
  obtain ⟨i0, hi0, hz0, hz1, hz2⟩ := info_parts (show (Tryd.prog.info? 3).map (fun i => (i.zero, i.size, i.bytes)) = some (some (Value.int IntKind.i64 0), 1, 8) by kernel_rfl)
  go_upto_region 4 with (refine wpList_make_full _ rfl _ _ 43 rfl w2.heap.size 3 i0 (.int .i64 0) 1 Tryd.underlying43 hi0 hz0 hz1 _ _ _ _ nr rfl rfl rfl rfl (by rw [hz2]; omega) (by unfold maxLen; omega) (Nat.le_refl _) ?_; intro w3 ho hg)
  have hb3 : Below w2.heap.size w2 w3 := ⟨hg.os, hg.tape, hg.output, hg.size, fun k hk => hg.block k hk (by simp)⟩
  obtain ⟨g, hgg⟩ : ∃ x, x = w2.heap.size := ⟨_, rfl⟩
  rw [← hgg] at ho
  have S0 : Hid (NRow w1.heap.size nr w3 g nr (filI (fun k => if (s.R k).hauled then 1 else 0) 0) ∧ Below w1.heap.size w1 w3) := ⟨(NRow.made ho w1.heap.size (by rw [hgg]; exact HB2.out.size)).cong (fun l _ => by unfold filI; rw [if_neg (by omega)]), below_on HB2.out hb3⟩
  rw [← hgg]
  clear ho hg hb3 hgg hi0 hz0 hz1 hz2 i0 c0 c1 HB2
  go_wp2_with fail
  go_loopg [15] nr (fun mm s15 wx => ∃ i : Nat, s15 = .int .i64 (i : Int) ∧ mm = nr - i ∧ i ≤ nr ∧ Hid (NRow w1.heap.size nr wx g nr (filI (fun k => if (s.R k).hauled then 1 else 0) i) ∧ Below w1.heap.size w1 wx))
  case atStart => exact ⟨0, rfl, rfl, Nat.zero_le _, S0⟩
  case round =>
    clear S0
    obtain ⟨i, rfl, rfl, hi, S⟩ := hrel
    rename World => W1
    by_cases hlt : i < nr
    · have li : (i : Int) < (nr : Int) := by omega
      have wi : IntKind.i64.wrap ((i : Int) + 1) = ((i + 1 : Nat) : Int) := by rw [IntWalk.i64_in _ (by omega)]; omega
      have c1 := (S.out.2.cell (p := ⟨xb, 1, none⟩) HC.out.lt).trans HC.out.c1
      rw [HNB.out.2] at c1
      obtain ⟨hv, hhv⟩ : ∃ z : Int, (if (s.R i).hauled = true then 1 else 0) = z := ⟨_, rfl⟩
      have CH : Hid (Calls Tryd.prog 67 #[.slice (some ⟨rb, ro + i * 3, none⟩) 1 (s.rc - i)] W1 fun e w' => e = .returned (.int .i64 hv) ∧ Below W1.heap.size W1 w') := by
        refine (countH_any (some ⟨rb, ro + i * 3, none⟩) 1 (s.rc - i) (fun j => s.R (i + j)) W1 (fun _ => ⟨rb, ro + i * 3, rfl, Nat.lt_of_lt_of_le HT.out.1 S.out.2.size, fun j hj => ?_⟩) (by omega)).mono fun e w' ⟨h1, h2⟩ => ⟨?_, h2⟩
        · have e : j = 0 := by omega
          subst e
          have hc := HT.out.2 i hlt
          exact ⟨(S.out.2.cell (p := ⟨rb, ro + i * 3, none⟩) HT.out.1).trans hc.1, (S.out.2.cell (p := ⟨rb, ro + i * 3 + 1, none⟩) HT.out.1).trans hc.2.1, (S.out.2.cell (p := ⟨rb, ro + i * 3 + 2, none⟩) HT.out.1).trans hc.2.2⟩
        · rw [h1, ← hhv]
          simp only [cntH, Nat.add_zero]
          split <;> rfl
      have HFL : Hid (∀ W, NRow w1.heap.size nr W g nr (filI (fun k => if (s.R k).hauled then 1 else 0) i) → NRow w1.heap.size nr (W.setCell ⟨g, i, none⟩ (.int .i64 hv)) g nr (filI (fun k => if (s.R k).hauled then 1 else 0) (i + 1))) := fun W h => by rw [← hhv]; exact h.fil hlt
      clear hhv
      go_wp2_with (go_at_call 67; (with_reducible refine (CH.out.mono ?_)); rintro e w4 ⟨rfl, hb4⟩
                   have S2 := Lib.hid (And.intro (S.out.1.on hb4) (below_on S.out.2 hb4))
                   clear hb4 c1
                   have z0 := S2.out.1.cell i hlt
                   have y0 := S2.out.1.fz i hlt
                   have yl := S2.out.1.hb)
      have S3 := Lib.hid (And.intro (HFL.out w4 S2.out.1) (S2.out.2.setCell (p := ⟨g, i, none⟩) S2.out.1.lo (.int .i64 hv)))
      go_roundg (nr - (i + 1))
      case measure => omega
      case rel => exact ⟨i + 1, rfl, rfl, by omega, S3⟩
    · have li : ¬ (i : Int) < (nr : Int) := by omega
      have e : nr = i := by omega
      subst e
      have R0 : Hid (NRow w.heap.size nr W1 g nr (fun k => if (s.R k).hauled then 1 else 0) ∧ Below w.heap.size w W1) := ⟨S.out.1.filled.mono HB.out.size, below_on HB.out S.out.2⟩
      clear S
      go_wp2_with fail
      go_ret2
      exact ⟨g, rfl, R0.out⟩
/-- The parts at a block, over the first ropes. -/
def prt (s : Sys) (q : Nat) : Nat → Int
  | 0 => 0
  | k + 1 => prt s q k + mtx s q k
theorem mtx_bd {s : Sys} (h : SysOk s) (q : Nat) {k : Nat} (hk : k < s.nr) : -20 ≤ mtx s q k ∧ mtx s q k ≤ 20 := by
  have hr := h.rop k hk
  have := pul_bd hr (s.bn q) (s.R k).n (Nat.le_refl _)
  have := hr.l10
  unfold mtx
  omega
theorem prt_bd {s : Sys} (h : SysOk s) (q : Nat) : ∀ k, k ≤ s.nr → -(20 * (k : Int)) ≤ prt s q k ∧ prt s q k ≤ 20 * (k : Int)
  | 0, _ => by unfold prt; omega
  | k + 1, hk => by
    have := prt_bd h q k (by omega)
    have := mtx_bd h q (k := k) (by omega)
    unfold prt
    omega
set_option maxHeartbeats 4000000 in
theorem kParts_bad (s : Sys) (x : ByteArray) (w : World) (hs : s.At w) (hsm : SysSm s) (hrg : SysRg s) (ho : ¬ SysOk s) :
    Calls Tryd.prog 24 #[.agg #[.slice s.ba s.nb s.bc, .slice s.ra s.nr s.rc], .string x] w fun e w' => e = .returned (.tuple #[.int .i64 0, .int .i64 1]) ∧ Below w.heap.size w w' := by
  obtain ⟨w1, hw1⟩ : ∃ W, W = w.alloc (Obj.cells #[Value.slice s.ba s.nb s.bc, .slice s.ra s.nr s.rc] 36) := ⟨_, rfl⟩
  obtain ⟨xb, hxb⟩ : ∃ x, x = w.heap.size := ⟨_, rfl⟩
  have hC : C2 w1 xb (.slice s.ba s.nb s.bc) (.slice s.ra s.nr s.rc) := by rw [hw1, hxb]; exact C2.new _ _ _ _
  have hB : Below w.heap.size w w1 := by rw [hw1]; exact (Below.refl _ _).alloc (Nat.le_refl _) _
  have HB := Lib.hid hB
  have CM := Lib.hid (kMatrix_bad s w1 (hs.on hB) hsm hrg ho)
  have c0 := hC.c0
  have c1 := hC.c1
  clear hs hC hB hsm hrg ho
  go_enter Tryd.func24, Tryd.ntmps24
  go_upto_region 1 with fail
  rw [← hxb, ← hw1]
  clear hxb hw1
  go_wp2_with (go_at_call 22; (with_reducible refine (CM.out.mono ?_)); rintro e w2 ⟨rfl, hb2⟩; have HB2 := Lib.hid (below_on HB.out hb2); clear hb2)
  go_ret2
  exact ⟨rfl, HB2.out⟩
set_option maxHeartbeats 8000000 in
theorem kParts_ok (s : Sys) (x : ByteArray) (w : World) (hs : s.At w) (hsm : SysSm s) (hrg : SysRg s) (ho : SysOk s) (hx : x.size ≤ 1000) :
    Calls Tryd.prog 24 #[.agg #[.slice s.ba s.nb s.bc, .slice s.ra s.nr s.rc], .string x] w fun e w' => e = .returned (match fstI s.bn x s.nb with | some q => .tuple #[.int .i64 (prt s q s.nr), .int .i64 0] | none => .tuple #[.int .i64 0, .int .i64 9]) ∧ Below w.heap.size w w' := by
  have hb9 := hsm.b
  have hr9 := hsm.r
  rw [← lstI_fst ho.bdis]
  obtain ⟨w1, hw1⟩ : ∃ W, W = w.alloc (Obj.cells #[Value.slice s.ba s.nb s.bc, .slice s.ra s.nr s.rc] 36) := ⟨_, rfl⟩
  obtain ⟨xb, hxb⟩ : ∃ x, x = w.heap.size := ⟨_, rfl⟩
  have hC : C2 w1 xb (.slice s.ba s.nb s.bc) (.slice s.ra s.nr s.rc) := by rw [hw1, hxb]; exact C2.new _ _ _ _
  have hB : Below w.heap.size w w1 := by rw [hw1]; exact (Below.refl _ _).alloc (Nat.le_refl _) _
  have HB := Lib.hid hB
  have CM := Lib.hid (kMatrix_ok s w1 (hs.on hB) hsm hrg ho)
  have HS := Lib.hid (hs.on hB)
  have HC := Lib.hid hC
  have HP := Lib.hid (And.intro hsm ho)
  have c0 := hC.c0
  have c1 := hC.c1
  clear hs hC hB hsm hrg ho
  have hlq := fun q t h1 h2 h3 => lst_q (s := s) (x := x) (q := q) (t := t) h1 h2 h3
  obtain ⟨q, hq⟩ : ∃ q, (lstI s.bn x s.nb).getD 0 = q := ⟨_, rfl⟩
  obtain ⟨t, ht⟩ : ∃ t, (lstI s.bn x s.nb).isSome = t := ⟨_, rfl⟩
  have HTT := Lib.hid (And.intro hq ht)
  have hres : (match lstI s.bn x s.nb with | some q => Value.tuple #[.int .i64 (prt s q s.nr), .int .i64 0] | none => .tuple #[.int .i64 0, .int .i64 9]) = if t = true then Value.tuple #[.int .i64 (prt s q s.nr), .int .i64 0] else .tuple #[.int .i64 0, .int .i64 9] := by
    cases e : lstI s.bn x s.nb with
    | none => rw [e] at ht; subst ht; rfl
    | some i => rw [e] at ht hq; subst ht; subst hq; rfl
  rw [hres]
  clear hres hq ht hlq
  cases t
  · rw [if_neg (by simp)]
    go_enter Tryd.func24, Tryd.ntmps24
    go_upto_region 1 with fail
    rw [← hxb, ← hw1]
    clear hxb hw1
    go_upto_region 4 with (go_at_call 22; (with_reducible refine (CM.out.mono ?_)); rintro e w2 ⟨b, G, rfl, hgr, hb2⟩; have HG := Lib.hid (And.intro hgr hb2); clear hgr hb2)
    clear c0 c1 CM
    have c0 := (HG.out.2.cell (p := ⟨xb, 0, none⟩) HC.out.lt).trans HC.out.c0
    have CR := Lib.hid (rowsOf_any s.ba s.nb s.bc s.bn s.bw w2 (HS.out.on HG.out.2).b (fun i hi => by have := HP.out.1.bn i hi; omega) (by omega))
    go_wp2_with (first
      | (go_at_call 62; (with_reducible refine (CR.out.mono ?_)); rintro e w3 ⟨mb, rfl, hmb, hix, hb3⟩; have H3 := Lib.hid (And.intro hix (below_on HB.out (below_on HG.out.2 hb3))); clear hix hb3 hmb)
      | (at_lookup; refine wpList_ixm _ rfl rfl _ _ rfl _ s.nb s.bn rfl H3.out.1 x rfl (by unfold maxLen; omega) q false HTT.out.1 HTT.out.2 ?_))
    go_ret2
    exact ⟨rfl, H3.out.2⟩
  · rw [if_pos rfl]
    go_enter Tryd.func24, Tryd.ntmps24
    go_upto_region 1 with fail
    rw [← hxb, ← hw1]
    clear hxb hw1
    go_upto_region 4 with (go_at_call 22; (with_reducible refine (CM.out.mono ?_)); rintro e w2 ⟨b, G, rfl, hgr, hb2⟩; have HG := Lib.hid (And.intro hgr hb2); clear hgr hb2)
    clear c0 c1 CM
    have c0 := (HG.out.2.cell (p := ⟨xb, 0, none⟩) HC.out.lt).trans HC.out.c0
    have CR := Lib.hid (rowsOf_any s.ba s.nb s.bc s.bn s.bw w2 (HS.out.on HG.out.2).b (fun i hi => by have := HP.out.1.bn i hi; omega) (by omega))
    obtain ⟨hq1, hq2⟩ := lst_q HTT.out.1 HTT.out.2 rfl
    have lq : (q : Int) < (s.nb : Int) := by omega
    have HQ := Lib.hid hq1
    go_upto_region 8 with (first
      | (go_at_call 62; (with_reducible refine (CR.out.mono ?_)); rintro e w3 ⟨mb, rfl, hmb, hix, hb3⟩; have H3 := Lib.hid (And.intro hix (And.intro (below_on HB.out (below_on HG.out.2 hb3)) (HG.out.1.on hb3))); clear hix hb3 hmb)
      | (at_lookup; refine wpList_ixm _ rfl rfl _ _ rfl _ s.nb s.bn rfl H3.out.1 x rfl (by unfold maxLen; omega) q true HTT.out.1 HTT.out.2 ?_))
    clear c0 CR
    have q0 := H3.out.2.2.top q hq1
    have q1 := H3.out.2.2.hb
    have N0 : Hid (Below w3.heap.size w3 w3) := Below.refl _ _
    clear hq1 hq2
    obtain ⟨nr, hnr⟩ : ∃ x, s.nr = x := ⟨_, rfl⟩
    have HNR := Lib.hid hnr
    rw [hnr] at q0 hr9
    clear hnr
    go_wp2_with fail
    go_loopg [10, 36] nr (fun mm s10 s36 wx => ∃ k : Nat, s10 = .int .i64 (prt s q k) ∧ s36 = .int .i64 (k : Int) ∧ mm = nr - k ∧ k ≤ nr ∧ wx = w3)
    case atStart => exact ⟨0, rfl, rfl, rfl, Nat.zero_le _, rfl⟩
    case round =>
      obtain ⟨k, rfl, rfl, rfl, hk, rfl⟩ := hrel
      by_cases hlt : k < nr
      · have lk : (k : Int) < (nr : Int) := by omega
        have wk : IntKind.i64.wrap ((k : Int) + 1) = ((k + 1 : Nat) : Int) := by rw [IntWalk.i64_in _ (by omega)]; omega
        have hkn : k < s.nr := by rw [HNR.out]; exact hlt
        have z0 := H3.out.2.2.cell q k HQ.out hkn
        have zl := (H3.out.2.2.row q HQ.out).2.1
        have b1 := prt_bd HP.out.2 q k (by omega)
        have b2 := mtx_bd HP.out.2 q hkn
        have hst : prt s q (k + 1) = prt s q k + mtx s q k := rfl
        have HST := Lib.hid hst
        have wp : IntKind.i64.wrap (prt s q k + mtx s q k) = prt s q k + mtx s q k := IntWalk.i64_in _ (by omega)
        clear hst hkn
        go_wp2_with fail
        go_roundg (nr - (k + 1))
        case measure => omega
        case rel => exact ⟨k + 1, by rw [HST.out], rfl, rfl, by omega, rfl⟩
      · have lk : ¬ (k : Int) < (nr : Int) := by omega
        have e : nr = k := by omega
        subst e
        go_wp2_with fail
        go_ret2
        exact ⟨by rw [HNR.out]; rfl, H3.out.2.1⟩
end Go.Proofs.YtcghjjfpjiacfaaDoor
