/- Layer 10: package reeving: the text of a system. -/
import Derived.Test.YtcghjjfpjiacfaaDoorKC
namespace Go.Proofs.YtcghjjfpjiacfaaDoor
open Go.ChangeShapes Go.WideShapes Go.ChangeAt Go.RowKit Go.Joins Go.Deep Go.Shelf
set_option linter.unusedVariables false


def sBlock : ByteArray := ⟨#[98, 108, 111, 99, 107]⟩
/-- The words of a block's line. -/
def wbF (s : Sys) (i : Nat) (j : Nat) : ByteArray := if j = 0 then sBlock else if j = 1 then s.bn i else bsS (Lib.itoa (s.bw i))
def lnB (s : Sys) (i : Nat) : List UInt8 := lnT ((List.range 3).map fun j => (wbF s i j).data.toList)
def lnR (s : Sys) (k : Nat) : List UInt8 := lnT ((List.range (3 + 3 * (s.R k).n)).map fun j => (wdF (s.R k) j).data.toList)
/-- The lines of the first blocks; of all blocks and the first ropes. -/
def tbF (s : Sys) : Nat → List UInt8
  | 0 => []
  | i + 1 => tbF s i ++ lnB s i
def trF (s : Sys) : Nat → List UInt8
  | 0 => tbF s s.nb
  | k + 1 => trF s k ++ lnR s k
def txS (s : Sys) : List UInt8 := trF s s.nr
theorem wbF_size {s : Sys} (h : SysSm s) (hg : SysRg s) {i : Nat} (hi : i < s.nb) (j : Nat) : (wbF s i j).size ≤ 60 := by
  unfold wbF
  split
  · decide
  · split
    · exact h.bn i hi
    · rw [bsS_size]
      have := Lib.itoa_length_le _ (hg.w i hi).1 (hg.w i hi).2
      omega
theorem lnB_len {s : Sys} (h : SysSm s) (hg : SysRg s) {i : Nat} (hi : i < s.nb) : (lnB s i).length ≤ 200 := by
  have := lnT_len (c := 60) ((List.range 3).map fun j => (wbF s i j).data.toList) (fun x hx => by
    obtain ⟨j, _, rfl⟩ := List.mem_map.1 hx
    have := wbF_size h hg hi j
    simpa using this)
  unfold lnB
  simp only [List.length_map, List.length_range] at this
  omega
theorem lnR_len {s : Sys} (h : SysSm s) (hg : SysRg s) {k : Nat} (hk : k < s.nr) : (lnR s k).length ≤ 3000 := by
  have := lnT_len (c := 60) ((List.range (3 + 3 * (s.R k).n)).map fun j => (wdF (s.R k) j).data.toList) (fun x hx => by
    obtain ⟨j, hj, rfl⟩ := List.mem_map.1 hx
    have := wdF_size (h.rop hg hk) (h.rn k hk) (j := j) (by simpa using hj)
    simpa using this)
  have := h.h k hk
  unfold lnR
  simp only [List.length_map, List.length_range] at *
  omega
theorem tbF_len {s : Sys} (h : SysSm s) (hg : SysRg s) : ∀ i, i ≤ s.nb → (tbF s i).length ≤ 200 * i
  | 0, _ => by simp [tbF]
  | i + 1, hi => by
    have h1 := tbF_len h hg i (by omega)
    have h2 := lnB_len h hg (i := i) (by omega)
    unfold tbF
    rw [List.length_append]
    omega
theorem trF_len {s : Sys} (h : SysSm s) (hg : SysRg s) : ∀ k, k ≤ s.nr → (trF s k).length ≤ 2000 + 3000 * k
  | 0, _ => by
    have h1 := tbF_len h hg s.nb (Nat.le_refl _)
    have := h.b
    unfold trF
    omega
  | k + 1, hk => by
    have h1 := trF_len h hg k (by omega)
    have h2 := lnR_len h hg (k := k) (by omega)
    unfold trF
    rw [List.length_append]
    omega
set_option maxHeartbeats 4000000 in
theorem kText_bad (s : Sys) (w : World) (hs : s.At w) (hsm : SysSm s) (hrg : SysRg s) (ho : ¬ SysOk s) :
    Calls Tryd.prog 57 #[.agg #[.slice s.ba s.nb s.bc, .slice s.ra s.nr s.rc]] w fun e w' => e = .returned (.tuple #[.string ByteArray.empty, .int .i64 1]) ∧ Below w.heap.size w w' := by
  obtain ⟨w1, hw1⟩ : ∃ W, W = w.alloc (Obj.cells #[Value.slice s.ba s.nb s.bc, .slice s.ra s.nr s.rc] 36) := ⟨_, rfl⟩
  obtain ⟨xb, hxb⟩ : ∃ x, x = w.heap.size := ⟨_, rfl⟩
  have hC : C2 w1 xb (.slice s.ba s.nb s.bc) (.slice s.ra s.nr s.rc) := by rw [hw1, hxb]; exact C2.new _ _ _ _
  have hB : Below w.heap.size w w1 := by rw [hw1]; exact (Below.refl _ _).alloc (Nat.le_refl _) _
  have HB := Lib.hid hB
  have CV : Hid (Calls Tryd.prog 18 #[.agg #[.slice s.ba s.nb s.bc, .slice s.ra s.nr s.rc]] w1 fun e w' => e = .returned (.bool false) ∧ Below w1.heap.size w1 w') := kValid_any s w1 (hs.on hB) hsm hrg false ⟨fun h => (by cases h), fun h => absurd h ho⟩
  have c0 := hC.c0
  have c1 := hC.c1
  clear hs hC hB hsm hrg ho
  go_enter Tryd.func57, Tryd.ntmps57
  go_upto_region 1 with fail
  rw [← hxb, ← hw1]
  clear hxb hw1
  go_wp2_with (go_at_call 18; (with_reducible refine (CV.out.mono ?_)); rintro e w2 ⟨rfl, hb2⟩; have HB2 := Lib.hid (below_on HB.out hb2); clear hb2)
  go_ret2
  exact ⟨rfl, HB2.out⟩
structure Kt7R (s : Sys) (xh i : Nat) (Wc : World) (L : Nat → Bool) (v : Nat → Value) (g : Nat → Nat) (W : World) : Prop where
  st : Below Wc.heap.size Wc W
  b6 : Had L 6 (Wc.heap.size ≤ g 6 ∧ g 6 < W.heap.size)
  z6 : Had L 6 (CB W (g 6) [.string (⟨#[98, 108, 111, 99, 107]⟩ : ByteArray), .string (s.bn i), .string (⟨(Lib.itoa (s.bw i)).toArray⟩ : ByteArray)])
  w2 : Had L 2 (∀ j ∈ [1], L j = true)
  w4 : Had L 4 (∀ j ∈ [3], L j = true)
  w5 : Had L 5 (∀ j ∈ [4], L j = true)
  w6 : Had L 6 (∀ j ∈ [2, 5], L j = true)
  w7 : Had L 7 (∀ j ∈ [6], L j = true)
  w8 : Had L 8 (∀ j ∈ [0, 7], L j = true)
  w9 : Had L 9 (∀ j ∈ [0, 1, 2, 3, 4, 5, 6, 7, 8], L j = true)
  f0 : Had L 0 (v 19 = .string ⟨(tbF s i).toArray⟩)
  f1 : Had L 1 (v 20 = .pointer (some ⟨xh, 0, none⟩))
  f2 : Had L 2 (v 21 = .string (s.bn i))
  f3 : Had L 3 (v 22 = .pointer (some ⟨xh, 1, none⟩))
  f4 : Had L 4 (v 23 = .int .i64 (s.bw i))
  f5 : Had L 5 (v 24 = .string (⟨(Lib.itoa (s.bw i)).toArray⟩ : ByteArray))
  f6 : Had L 6 (v 25 = .slice (some ⟨g 6, 0, none⟩) (3) (3))
  f7 : Had L 7 (v 26 = .string ⟨(lnB s i).toArray⟩)
  f8 : Had L 8 (v 27 = .string ⟨(tbF s (i + 1)).toArray⟩)
  f9 : Had L 9 (v 4 = .string ⟨(tbF s (i + 1)).toArray⟩)
  g4 : L 9 = false → v 4 = .string ⟨(tbF s i).toArray⟩
set_option maxRecDepth 100000 in
set_option maxHeartbeats 16000000 in
theorem kText_ok (s : Sys) (w : World) (B : Nat) (hBw : B ≤ w.heap.size) (hT : Pow10 B w) (hs : s.At w) (hsm : SysSm s) (hrg : SysRg s) (ho : SysOk s) :
    Calls Tryd.prog 57 #[.agg #[.slice s.ba s.nb s.bc, .slice s.ra s.nr s.rc]] w fun e w' => e = .returned (.tuple #[.string ⟨(txS s).toArray⟩, .int .i64 0]) ∧ Below w.heap.size w w' := by
  have hb9 := hsm.b
  have hr9 := hsm.r
  have hb1 := ho.b1
  have hr1 := ho.r1
  obtain ⟨w1, hw1⟩ : ∃ W, W = w.alloc (Obj.cells #[Value.slice s.ba s.nb s.bc, .slice s.ra s.nr s.rc] 36) := ⟨_, rfl⟩
  obtain ⟨xb, hxb⟩ : ∃ x, x = w.heap.size := ⟨_, rfl⟩
  have hC : C2 w1 xb (.slice s.ba s.nb s.bc) (.slice s.ra s.nr s.rc) := by rw [hw1, hxb]; exact C2.new _ _ _ _
  have hB : Below w.heap.size w w1 := by rw [hw1]; exact (Below.refl _ _).alloc (Nat.le_refl _) _
  have HB := Lib.hid hB
  have CV : Hid (Calls Tryd.prog 18 #[.agg #[.slice s.ba s.nb s.bc, .slice s.ra s.nr s.rc]] w1 fun e w' => e = .returned (.bool true) ∧ Below w1.heap.size w1 w') := kValid_any s w1 (hs.on hB) hsm hrg true ⟨fun _ => ho, fun _ => rfl⟩
  obtain ⟨rb, ro, hre, hrb, hrc⟩ := (hs.on hB).r.l (by omega)
  obtain ⟨bb, bo, hbe, hbb, hbc⟩ := (hs.on hB).b (by omega)
  rw [hre, hbe] at hC hw1 CV
  rw [hre, hbe]
  have HS := Lib.hid (hs.on hB)
  have HC := Lib.hid hC
  have HP := Lib.hid (And.intro hsm (And.intro hrg ho))
  have HPW : Hid (Pow10 B w1 ∧ B ≤ w1.heap.size) := ⟨kpow_on hT (hB.mono hBw), Nat.le_trans hBw hB.size⟩
  have c0 := hC.c0
  have c1 := hC.c1
  obtain ⟨nb, hnb⟩ : ∃ x, s.nb = x := ⟨_, rfl⟩
  obtain ⟨nr, hnr⟩ : ∃ x, s.nr = x := ⟨_, rfl⟩
  have HNB := Lib.hid (And.intro hnb hnr)
  rw [hnb] at hb9 hb1 c0 CV hw1 hbc
  rw [hnr] at hr9 hr1 c1 CV hw1 hrc
  rw [hnb, hnr]
  have HT := Lib.hid (And.intro hrb hrc)
  have HU := Lib.hid (And.intro hbb hbc)
  clear hs hC hB hsm hrg ho hnb hnr hre hrb hrc hbe hbb hbc hT hBw
  go_enter Tryd.func57, Tryd.ntmps57
  go_upto_region 1 with fail
  rw [← hxb, ← hw1]
  clear hxb hw1
  go_upto_region 4 with (go_at_call 18; (with_reducible refine (CV.out.mono ?_)); rintro e w2 ⟨rfl, hb2⟩; have HB2 := Lib.hid hb2; clear hb2)
  clear c0 c1 CV
  have c0 := (HB2.out.cell (p := ⟨xb, 0, none⟩) HC.out.lt).trans HC.out.c0
  rw [HNB.out.1] at c0
  go_wp2_with fail
  clear c0
  go_loopg [4, 15] nb (fun mm s4 s15 wx => ∃ i : Nat, s4 = .string ⟨(tbF s i).toArray⟩ ∧ s15 = .int .i64 (i : Int) ∧ mm = nb - i ∧ i ≤ nb ∧ Hid (Below w1.heap.size w1 wx))
  case atStart => exact ⟨0, rfl, rfl, rfl, Nat.zero_le _, HB2⟩
  case round =>
    clear HB2
    obtain ⟨i, rfl, rfl, rfl, hi, S⟩ := hrel
    rename World => W1
    by_cases hlt : i < nb
    · have li : (i : Int) < (nb : Int) := by omega
      have wi : IntKind.i64.wrap ((i : Int) + 1) = ((i + 1 : Nat) : Int) := by rw [IntWalk.i64_in _ (by omega)]; omega
      have p1 := (S.out.cell (p := ⟨bb, bo + i * 2, none⟩) HU.out.1).trans (HU.out.2 i hlt).1
      have p2 := (S.out.cell (p := ⟨bb, bo + i * 2 + 1, none⟩) HU.out.1).trans (HU.out.2 i hlt).2
      go_upto_region 7 with fail
      obtain ⟨W2, hW2⟩ : ∃ W, W = W1.alloc (Obj.cells #[.string (s.bn i), .int .i64 (s.bw i)] 55) := ⟨_, rfl⟩
      obtain ⟨xh, hxh⟩ : ∃ x, x = W1.heap.size := ⟨_, rfl⟩
      have hCxh : C2 W2 xh (.string (s.bn i)) (.int .i64 (s.bw i)) := by rw [hW2, hxh]; exact C2.new _ _ _ _
      have HBxh : Hid (Below W1.heap.size W1 W2) := by rw [hW2]; exact (Below.refl _ _).alloc (Nat.le_refl _) _
      rw [← hW2, ← hxh]
      clear hW2 hxh
      have L0 := Lib.hid (And.intro hCxh.c0 hCxh.lt)
      have L1 := Lib.hid (And.intro hCxh.c1 hCxh.lt)
      have S2 : Hid (Below w1.heap.size w1 W2) := below_on S.out HBxh.out
      have hsi : i < s.nb := by rw [HNB.out.1]; exact hlt
      have hwr := HP.out.2.1.w i hsi
      have hl1 := tbF_len HP.out.1 HP.out.2.1 i (by omega)
      have hl2 := lnB_len HP.out.1 HP.out.2.1 hsi
      have CI : Hid (∀ W, Below W2.heap.size W2 W → Calls Tryd.prog 93 #[.int .i64 (s.bw i)] W fun e w' => e = .returned (.string ⟨(Lib.itoa (s.bw i)).toArray⟩) ∧ Below W.heap.size W w') := fun W hW =>
        Itoa_b _ hwr.1 hwr.2 W (HPW.out.1 W ((below_on S2.out hW).mono HPW.out.2))
      have CL : Hid (∀ W b, CB W b [.string (⟨#[98, 108, 111, 99, 107]⟩ : ByteArray), .string (s.bn i), .string (⟨(Lib.itoa (s.bw i)).toArray⟩ : ByteArray)] → Calls Tryd.prog 92 #[.slice (some ⟨b, 0, none⟩) 3 3] W fun e w' => e = .returned (.string ⟨(lnB s i).toArray⟩) ∧ Below W.heap.size W w') := fun W b hb =>
        lineOf_any _ 3 3 (wbF s i) W (fun _ => ⟨b, 0, rfl, hb.lt, fun j hj => by
          have : j = 0 ∨ j = 1 ∨ j = 2 := by omega
          rcases this with rfl | rfl | rfl
          · exact hb.cell 0 _ rfl
          · exact hb.cell 1 _ rfl
          · exact hb.cell 2 _ rfl⟩) (by omega) (by omega) (by omega) (fun j _ => by have := wbF_size HP.out.1 HP.out.2.1 hsi j; omega) _ rfl
      have A1 : ∀ (w : World), (Op.stringOp .add ⟨(tbF s i).toArray⟩ ⟨(lnB s i).toArray⟩).run Tryd.prog w = .ok (.string ⟨(tbF s (i + 1)).toArray⟩) w := fun w => run_string_add_lists w (tbF s i) (lnB s i) (by omega) (by omega)
      clear p1 p2 hCxh HBxh S hwr hl1 hl2 hsi
      refine wp_region_each (fun L A W => ∃ (v : Nat → Value) (g : Nat → Nat), A = ⟨#[_, _, _, _, v 4, _, _, _, _, _, _, _, _, _, _, _, _, _, _, v 19, v 20, v 21, v 22, v 23, v 24, v 25, v 26, v 27, _, _, _, _, _, _, _, _, _, _, _, _, _, _, _], []⟩ ∧ Kt7R s xh i W2 L v g W) (by kernel_rfl) (by kernel_rfl) ⟨fun jz => if jz = 19 then u19 else if jz = 20 then u20 else if jz = 21 then u21 else if jz = 22 then u22 else if jz = 23 then u23 else if jz = 24 then u24 else if jz = 25 then u25 else if jz = 26 then u26 else if jz = 27 then u27 else if jz = 4 then .string ⟨(tbF s i).toArray⟩ else undef, fun _ => 0, rfl, ⟨(Below.drew (Below.refl _ _)), Had.none, Had.none, Had.none, Had.none, Had.none, Had.none, Had.none, Had.none, Had.none, Had.none, Had.none, Had.none, Had.none, Had.none, Had.none, Had.none, Had.none, Had.none, Had.none, (fun _ => rfl)⟩⟩ (rs := [0, 1, 2, 3, 4, 5, 6, 7, 8, 9]) (by kernel_rfl) ?_ ?_
      · refine EachOf.cons [] rfl (by kernel_rfl) ?_ ?_
        · rintro L A W ⟨v, g, rfl, hR⟩ hi hw KK hK
          have hio4 : L 9 = false := hR.w9.not hi rfl
          have g4 := hR.g4 hio4
          simp only [g4]
          clear g4
          go_simp
          refine hK.out _ _ ?_
          exact ⟨(fun jz => if jz = 4 then .string ⟨(tbF s i).toArray⟩ else if jz = 19 then .string ⟨(tbF s i).toArray⟩ else v jz), g, rfl, ⟨hR.st, hR.b6.k, (fun h => hR.z6 (upd_back h rfl)), hR.w2.o, hR.w4.o, hR.w5.o, hR.w6.o, hR.w7.o, hR.w8.o, hR.w9.o, (fun _ => rfl), hR.f1.k, hR.f2.k, hR.f3.k, hR.f4.k, hR.f5.k, hR.f6.k, hR.f7.k, hR.f8.k, (fun h => absurd (upd_back h rfl) (by simp [hio4])), (fun _ => rfl)⟩⟩
        refine EachOf.cons [] rfl (by kernel_rfl) ?_ ?_
        · rintro L A W ⟨v, g, rfl, hR⟩ hi hw KK hK
          go_simp
          refine hK.out _ _ ?_
          exact ⟨(fun jz => if jz = 20 then .pointer (some ⟨xh, 0, none⟩) else v jz), g, rfl, ⟨hR.st, hR.b6.k, (fun h => hR.z6 (upd_back h rfl)), hR.w2.o, hR.w4.o, hR.w5.o, hR.w6.o, hR.w7.o, hR.w8.o, hR.w9.o, hR.f0.k, (fun _ => rfl), hR.f2.k, hR.f3.k, hR.f4.k, hR.f5.k, hR.f6.k, hR.f7.k, hR.f8.k, hR.f9.k, (fun h => hR.g4 (upd_false h))⟩⟩
        refine EachOf.cons [1] rfl (by kernel_rfl) ?_ ?_
        · rintro L A W ⟨v, g, rfl, hR⟩ hi hw KK hK
          have e1 := hR.f1 (hw 1 (by simp))
          simp only [e1]
          clear e1
          have q0 := (hR.st.cell (p := ⟨xh, 0, none⟩) L0.out.2).trans L0.out.1
          go_simp
          refine hK.out _ _ ?_
          exact ⟨(fun jz => if jz = 20 then .pointer (some ⟨xh, 0, none⟩) else if jz = 21 then .string (s.bn i) else v jz), g, rfl, ⟨hR.st, hR.b6.k, (fun h => hR.z6 (upd_back h rfl)), (fun _ j hj => upd_on (hw j hj)), hR.w4.o, hR.w5.o, hR.w6.o, hR.w7.o, hR.w8.o, hR.w9.o, hR.f0.k, (fun _ => rfl), (fun _ => rfl), hR.f3.k, hR.f4.k, hR.f5.k, hR.f6.k, hR.f7.k, hR.f8.k, hR.f9.k, (fun h => hR.g4 (upd_false h))⟩⟩
        refine EachOf.cons [] rfl (by kernel_rfl) ?_ ?_
        · rintro L A W ⟨v, g, rfl, hR⟩ hi hw KK hK
          go_simp
          refine hK.out _ _ ?_
          exact ⟨(fun jz => if jz = 22 then .pointer (some ⟨xh, 1, none⟩) else v jz), g, rfl, ⟨hR.st, hR.b6.k, (fun h => hR.z6 (upd_back h rfl)), hR.w2.o, hR.w4.o, hR.w5.o, hR.w6.o, hR.w7.o, hR.w8.o, hR.w9.o, hR.f0.k, hR.f1.k, hR.f2.k, (fun _ => rfl), hR.f4.k, hR.f5.k, hR.f6.k, hR.f7.k, hR.f8.k, hR.f9.k, (fun h => hR.g4 (upd_false h))⟩⟩
        refine EachOf.cons [3] rfl (by kernel_rfl) ?_ ?_
        · rintro L A W ⟨v, g, rfl, hR⟩ hi hw KK hK
          have e3 := hR.f3 (hw 3 (by simp))
          simp only [e3]
          clear e3
          have q0 := (hR.st.cell (p := ⟨xh, 1, none⟩) L1.out.2).trans L1.out.1
          go_simp
          refine hK.out _ _ ?_
          exact ⟨(fun jz => if jz = 22 then .pointer (some ⟨xh, 1, none⟩) else if jz = 23 then .int .i64 (s.bw i) else v jz), g, rfl, ⟨hR.st, hR.b6.k, (fun h => hR.z6 (upd_back h rfl)), hR.w2.o, (fun _ j hj => upd_on (hw j hj)), hR.w5.o, hR.w6.o, hR.w7.o, hR.w8.o, hR.w9.o, hR.f0.k, hR.f1.k, hR.f2.k, (fun _ => rfl), (fun _ => rfl), hR.f5.k, hR.f6.k, hR.f7.k, hR.f8.k, hR.f9.k, (fun h => hR.g4 (upd_false h))⟩⟩
        refine EachOf.cons [4] rfl (by kernel_rfl) ?_ ?_
        · rintro L A W ⟨v, g, rfl, hR⟩ hi hw KK hK
          have e4 := hR.f4 (hw 4 (by simp))
          simp only [e4]
          clear e4
          go_simp
          go_at_call 93
          (with_reducible refine ((Lib.hid (CI.out W hR.st)).out).mono ?_)
          rintro e w2 ⟨rfl, hb⟩
          go_simp
          refine hK.out _ _ ?_
          exact ⟨(fun jz => if jz = 23 then .int .i64 (s.bw i) else if jz = 24 then .string (⟨(Lib.itoa (s.bw i)).toArray⟩ : ByteArray) else v jz), g, rfl, ⟨below_on hR.st hb, (fun h => ⟨(hR.b6 (upd_back h rfl)).1, Nat.lt_of_lt_of_le (hR.b6 (upd_back h rfl)).2 hb.size⟩), (fun h => (hR.z6 (upd_back h rfl)).on hb), hR.w2.o, hR.w4.o, (fun _ j hj => upd_on (hw j hj)), hR.w6.o, hR.w7.o, hR.w8.o, hR.w9.o, hR.f0.k, hR.f1.k, hR.f2.k, hR.f3.k, (fun _ => rfl), (fun _ => rfl), hR.f6.k, hR.f7.k, hR.f8.k, hR.f9.k, (fun h => hR.g4 (upd_false h))⟩⟩
        refine EachOf.cons [2, 5] rfl (by kernel_rfl) ?_ ?_
        · rintro L A W ⟨v, g, rfl, hR⟩ hi hw KK hK
          have e2 := hR.f2 (hw 2 (by simp))
          have e5 := hR.f5 (hw 5 (by simp))
          simp only [e2, e5]
          clear e2 e5
          have hz : W2.heap.size ≤ W.heap.size := hR.st.size
          go_simp
          refine hK.out _ _ ?_
          have hb : Below W.heap.size W (W.alloc (Obj.cells #[Value.string (⟨#[98, 108, 111, 99, 107]⟩ : ByteArray), Value.string (s.bn i), Value.string (⟨(Lib.itoa (s.bw i)).toArray⟩ : ByteArray)] 9)) := (Below.refl _ _).alloc (Nat.le_refl _) _
          have hnew : CB (W.alloc (Obj.cells #[Value.string (⟨#[98, 108, 111, 99, 107]⟩ : ByteArray), Value.string (s.bn i), Value.string (⟨(Lib.itoa (s.bw i)).toArray⟩ : ByteArray)] 9)) W.heap.size [.string (⟨#[98, 108, 111, 99, 107]⟩ : ByteArray), .string (s.bn i), .string (⟨(Lib.itoa (s.bw i)).toArray⟩ : ByteArray)] := cb_new _ _ _
          exact ⟨(fun jz => if jz = 21 then .string (s.bn i) else if jz = 24 then .string (⟨(Lib.itoa (s.bw i)).toArray⟩ : ByteArray) else if jz = 25 then .slice (some ⟨W.heap.size, 0, none⟩) 3 3 else v jz), (fun jz => if jz = 6 then W.heap.size else g jz), rfl, ⟨below_on hR.st hb, (fun _ => ⟨hz, by simp⟩), (fun _ => hnew), hR.w2.o, hR.w4.o, hR.w5.o, (fun _ j hj => upd_on (hw j hj)), hR.w7.o, hR.w8.o, hR.w9.o, hR.f0.k, hR.f1.k, (fun _ => rfl), hR.f3.k, hR.f4.k, (fun _ => rfl), (fun _ => rfl), hR.f7.k, hR.f8.k, hR.f9.k, (fun h => hR.g4 (upd_false h))⟩⟩
        refine EachOf.cons [6] rfl (by kernel_rfl) ?_ ?_
        · rintro L A W ⟨v, g, rfl, hR⟩ hi hw KK hK
          have e6 := hR.f6 (hw 6 (by simp))
          simp only [e6]
          clear e6
          have hc6 := hR.z6 (hw 6 (by simp))
          go_simp
          go_at_call 92
          (with_reducible refine ((Lib.hid (CL.out W (g 6) hc6)).out).mono ?_)
          rintro e w2 ⟨rfl, hb⟩
          go_simp
          refine hK.out _ _ ?_
          exact ⟨(fun jz => if jz = 25 then .slice (some ⟨g 6, 0, none⟩) (3) (3) else if jz = 26 then .string ⟨(lnB s i).toArray⟩ else v jz), g, rfl, ⟨below_on hR.st hb, (fun h => ⟨(hR.b6 (upd_back h rfl)).1, Nat.lt_of_lt_of_le (hR.b6 (upd_back h rfl)).2 hb.size⟩), (fun h => (hR.z6 (upd_back h rfl)).on hb), hR.w2.o, hR.w4.o, hR.w5.o, hR.w6.o, (fun _ j hj => upd_on (hw j hj)), hR.w8.o, hR.w9.o, hR.f0.k, hR.f1.k, hR.f2.k, hR.f3.k, hR.f4.k, hR.f5.k, (fun _ => rfl), (fun _ => rfl), hR.f8.k, hR.f9.k, (fun h => hR.g4 (upd_false h))⟩⟩
        refine EachOf.cons [0, 7] rfl (by kernel_rfl) ?_ ?_
        · rintro L A W ⟨v, g, rfl, hR⟩ hi hw KK hK
          have e0 := hR.f0 (hw 0 (by simp))
          have e7 := hR.f7 (hw 7 (by simp))
          simp only [e0, e7]
          clear e0 e7
          go_simp
          refine hK.out _ _ ?_
          exact ⟨(fun jz => if jz = 19 then .string ⟨(tbF s i).toArray⟩ else if jz = 26 then .string ⟨(lnB s i).toArray⟩ else if jz = 27 then .string ⟨(tbF s (i + 1)).toArray⟩ else v jz), g, rfl, ⟨hR.st, hR.b6.k, (fun h => hR.z6 (upd_back h rfl)), hR.w2.o, hR.w4.o, hR.w5.o, hR.w6.o, hR.w7.o, (fun _ j hj => upd_on (hw j hj)), hR.w9.o, (fun _ => rfl), hR.f1.k, hR.f2.k, hR.f3.k, hR.f4.k, hR.f5.k, hR.f6.k, (fun _ => rfl), (fun _ => rfl), hR.f9.k, (fun h => hR.g4 (upd_false h))⟩⟩
        refine EachOf.cons [0, 1, 2, 3, 4, 5, 6, 7, 8] rfl (by kernel_rfl) ?_ ?_
        · rintro L A W ⟨v, g, rfl, hR⟩ hi hw KK hK
          have e8 := hR.f8 (hw 8 (by simp))
          simp only [e8]
          clear e8
          go_simp
          refine hK.out _ _ ?_
          exact ⟨(fun jz => if jz = 27 then .string ⟨(tbF s (i + 1)).toArray⟩ else if jz = 4 then .string ⟨(tbF s (i + 1)).toArray⟩ else v jz), g, rfl, ⟨hR.st, hR.b6.k, (fun h => hR.z6 (upd_back h rfl)), hR.w2.o, hR.w4.o, hR.w5.o, hR.w6.o, hR.w7.o, hR.w8.o, (fun _ j hj => upd_on (hw j hj)), hR.f0.k, hR.f1.k, hR.f2.k, hR.f3.k, hR.f4.k, hR.f5.k, hR.f6.k, hR.f7.k, (fun _ => rfl), (fun _ => rfl), (fun h => by simp [upd_self] at h)⟩⟩
        exact EachOf.nil
      rintro L A W3 ⟨vs, gg, rfl, hR⟩ hL
      have e9 := hR.f9 (hL 9 (by simp))
      simp only [e9]
      have S3 : Hid (Below w1.heap.size w1 W3) := below_on S2.out hR.st
      clear e9 hR hL L0 L1 CI CL A1
      go_wp2_with fail
      go_roundg (nb - (i + 1))
      case measure => omega
      case rel => exact ⟨i + 1, rfl, rfl, rfl, by omega, S3⟩
    · have li : ¬ (i : Int) < (nb : Int) := by omega
      have e : nb = i := by omega
      subst e
      have c1 := (S.out.cell (p := ⟨xb, 1, none⟩) HC.out.lt).trans HC.out.c1
      rw [HNB.out.2] at c1
      have e0 : tbF s nb = trF s 0 := by rw [← HNB.out.1]; rfl
      rw [e0]
      clear e0 li hi hlt
      go_wp2_with fail
      clear c1
      go_loopg [4, 32] nr (fun mm s4 s32 wx => ∃ k : Nat, s4 = .string ⟨(trF s k).toArray⟩ ∧ s32 = .int .i64 (k : Int) ∧ mm = nr - k ∧ k ≤ nr ∧ Hid (Below w1.heap.size w1 wx))
      case atStart => exact ⟨0, rfl, rfl, rfl, Nat.zero_le _, S⟩
      case round =>
        clear S
        obtain ⟨k, rfl, rfl, rfl, hk, S⟩ := hrel
        rename World => W1
        by_cases hlt : k < nr
        · have li : (k : Int) < (nr : Int) := by omega
          have wi : IntKind.i64.wrap ((k : Int) + 1) = ((k + 1 : Nat) : Int) := by rw [IntWalk.i64_in _ (by omega)]; omega
          have p1 := (S.out.cell (p := ⟨rb, ro + k * 3, none⟩) HT.out.1).trans (HT.out.2 k hlt).1
          have p2 := (S.out.cell (p := ⟨rb, ro + k * 3 + 1, none⟩) HT.out.1).trans (HT.out.2 k hlt).2.1
          have p3 := (S.out.cell (p := ⟨rb, ro + k * 3 + 2, none⟩) HT.out.1).trans (HT.out.2 k hlt).2.2
          go_upto_region 12 with fail
          obtain ⟨W2, hW2⟩ : ∃ W, W = W1.alloc (Obj.cells #[.string (s.R k).name, .slice (s.R k).ha (s.R k).n (s.R k).hc, .bool (s.R k).hauled] 58) := ⟨_, rfl⟩
          obtain ⟨b8, hb8⟩ : ∃ x, x = W1.heap.size := ⟨_, rfl⟩
          have hCb8 : C3 W2 b8 (.string (s.R k).name) (.slice (s.R k).ha (s.R k).n (s.R k).hc) (.bool (s.R k).hauled) := by rw [hW2, hb8]; exact C3.new _ _ _ _ _
          have HBb8 : Hid (Below W1.heap.size W1 W2) := by rw [hW2]; exact (Below.refl _ _).alloc (Nat.le_refl _) _
          rw [← hW2, ← hb8]
          clear hW2 hb8
          have c0 := hCb8.c0
          have c1 := hCb8.c1
          have c2 := hCb8.c2
          have S2 : Hid (Below w1.heap.size w1 W2) := below_on S.out HBb8.out
          have hsk : k < s.nr := by rw [HNB.out.2]; exact hlt
          have hl1 := trF_len HP.out.1 HP.out.2.1 k (by omega)
          have hl2 := lnR_len HP.out.1 HP.out.2.1 hsk
          have hh := HP.out.1.h k hsk
          have CW := Lib.hid (ropeWords_any (s.R k).name (s.R k).ha (s.R k).n (s.R k).hc (s.R k).hs (s.R k).hauled (s.R k) rfl W2 B (Nat.le_trans HPW.out.2 S2.out.size) (kpow_on HPW.out.1 (S2.out.mono HPW.out.2)) ((HS.out.r.h k hsk).on S2.out) (HP.out.1.rop HP.out.2.1 hsk) (fun i hi => hld_vB ((HP.out.2.2.rop k hsk).hs i hi)))
          have CL : Hid (∀ W pa pc, StO W W2.heap.size (.slice pa (3 + 3 * (s.R k).n) pc) (3 + 3 * (s.R k).n) (wdF (s.R k)) → Calls Tryd.prog 92 #[.slice pa (3 + 3 * (s.R k).n) pc] W fun e w' => e = .returned (.string ⟨(lnR s k).toArray⟩) ∧ Below W.heap.size W w') := fun W pa pc h =>
            lineOf_any pa _ pc (wdF (s.R k)) W h.strl (by omega) (by omega) h.cap (fun j hj => by have := wdF_size (HP.out.1.rop HP.out.2.1 hsk) (HP.out.1.rn k hsk) hj; omega) _ rfl
          have A1 : ∀ (w : World), (Op.stringOp .add ⟨(trF s k).toArray⟩ ⟨(lnR s k).toArray⟩).run Tryd.prog w = .ok (.string ⟨(trF s (k + 1)).toArray⟩) w := fun w => run_string_add_lists w (trF s k) (lnR s k) (by omega) (by omega)
          clear p1 p2 p3 hCb8 HBb8 S hl1 hl2 hsk hh
          go_wp2_with (first
            | (go_at_call 94; (with_reducible refine (CW.out.mono ?_)); rintro e w6 ⟨pa, pc, rfl, hst, hb6⟩; have S6 := Lib.hid (And.intro hst (below_on S2.out hb6)); clear hst hb6)
            | (go_at_call 92; (with_reducible refine ((CL.out _ _ _ S6.out.1).mono ?_)); rintro e w7 ⟨rfl, hb7⟩; have S7 := Lib.hid (below_on S6.out.2 hb7); clear hb7))
          go_roundg (nr - (k + 1))
          case measure => omega
          case rel => exact ⟨k + 1, rfl, rfl, rfl, by omega, S7⟩
        · have li : ¬ (k : Int) < (nr : Int) := by omega
          have e : nr = k := by omega
          subst e
          have e0 : trF s nr = txS s := by rw [← HNB.out.2]; rfl
          rw [e0]
          clear e0
          have R0 := Lib.hid (below_on HB.out S.out)
          go_wp2_with fail
          go_ret2
          exact ⟨rfl, R0.out⟩
end Go.Proofs.YtcghjjfpjiacfaaDoor
