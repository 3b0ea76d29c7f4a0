/- Layer 10: package reeving: the matrix of a system. -/
import Derived.Test.YtcghjjfpjiacfaaDoorKG
namespace Go.Proofs.YtcghjjfpjiacfaaDoor
open Go.ChangeShapes Go.WideShapes Go.ChangeAt Go.RowKit Go.Joins Go.Deep Go.Shelf
set_option linter.unusedVariables false

structure KmxR (b b10 nb nr q k : Nat) (G0 : Nat → Nat) (ev pl : Int) (Wc : World) (L : Nat → Bool) (v : Nat → Value) (W : World) : Prop where
  st : L 11 = false → Below Wc.heap.size Wc W
  s1 : Had L 11 (∃ W2, Below Wc.heap.size Wc W2 ∧ W = W2.setCell ⟨(G0 q), k, none⟩ (.int .i64 (ev + pl)))
  w2 : Had L 2 (∀ j ∈ [0, 1], L j = true)
  w3 : Had L 3 (∀ j ∈ [2], L j = true)
  w5 : Had L 5 (∀ j ∈ [3, 4], L j = true)
  w6 : Had L 6 (∀ j ∈ [5], L j = true)
  w8 : Had L 8 (∀ j ∈ [7], L j = true)
  w9 : Had L 9 (∀ j ∈ [6, 8], L j = true)
  w10 : Had L 10 (∀ j ∈ [3, 4], L j = true)
  w11 : Had L 11 (∀ j ∈ [0, 1, 2, 3, 4, 5, 6, 7, 8, 9, 10], L j = true)
  f0 : Had L 0 (v 59 = .slice (some ⟨b, 0, none⟩) (nb) (nb))
  f1 : Had L 1 (v 60 = .int .i64 (q : Int))
  f2 : Had L 2 (v 61 = .pointer (some ⟨b, q, none⟩))
  f3 : Had L 3 (v 62 = .slice (some ⟨(G0 q), 0, none⟩) (nr) (nr))
  f4 : Had L 4 (v 63 = .int .i64 (k : Int))
  f5 : Had L 5 (v 64 = .pointer (some ⟨(G0 q), k, none⟩))
  f6 : Had L 6 (v 65 = .int .i64 ev)
  f7 : Had L 7 (v 66 = .pointer (some ⟨b10, 1, none⟩))
  f8 : Had L 8 (v 67 = .int .i64 pl)
  f9 : Had L 9 (v 68 = .int .i64 (ev + pl))
  f10 : Had L 10 (v 69 = .pointer (some ⟨(G0 q), k, none⟩))
structure MxS (s : Sys) (w1 W : World) (b mb : Nat) (G : Nat → Nat) (E : Nat → Nat → Int) : Prop where
  st : Below w1.heap.size w1 W
  g : Grid w1.heap.size W b s.nb s.nr G (fun _ => s.nr) E
  m : IxM W mb s.bn s.nb
  n1 : mb ≠ b
  n2 : ∀ i, i < s.nb → G i ≠ mb
theorem MxS.on {s : Sys} {w1 W W2 : World} {b mb : Nat} {G : Nat → Nat} {E : Nat → Nat → Int} (h : MxS s w1 W b mb G E) (hb : Below W.heap.size W W2) : MxS s w1 W2 b mb G E := ⟨below_on h.st hb, h.g.on hb, h.m.on hb, h.n1, h.n2⟩
theorem MxS.set {s : Sys} {w1 W : World} {b mb : Nat} {G : Nat → Nat} {E : Nat → Nat → Int} (h : MxS s w1 W b mb G E) {q k : Nat} (hq : q < s.nb) (hk : k < s.nr) (v : Int) : MxS s w1 (W.setCell ⟨G q, k, none⟩ (.int .i64 v)) b mb G (setE E q k v) :=
  ⟨h.st.setCell (h.g.row q hq).1 _, h.g.set q k hq hk v, h.m.only (only_set W ⟨G q, k, none⟩ (.int .i64 v)) (fun e => h.n2 q hq e.symm), h.n1, h.n2⟩
theorem MxS.congr {s : Sys} {w1 W : World} {b mb : Nat} {G : Nat → Nat} {E F : Nat → Nat → Int} (h : MxS s w1 W b mb G E) (e : ∀ r c, r < s.nb → F r c = E r c) : MxS s w1 W b mb G F := ⟨h.st, h.g.congr fun i j hi _ => e i j hi, h.m, h.n1, h.n2⟩
theorem lst_q {s : Sys} {x : ByteArray} {q : Nat} {t : Bool} (h1 : (lstI s.bn x s.nb).getD 0 = q) (h2 : (lstI s.bn x s.nb).isSome = t) (ht : t = true) : q < s.nb ∧ s.bn q = x := by
  subst ht
  cases e : lstI s.bn x s.nb with
  | none => rw [e] at h2; cases h2
  | some i =>
    rw [e] at h1
    simp at h1
    subst h1
    exact lstI_some e
theorem lst_no {s : Sys} {x : ByteArray} (h2 : (lstI s.bn x s.nb).isSome = false) : ∀ r, r < s.nb → s.bn r ≠ x := by
  cases e : lstI s.bn x s.nb with
  | none => exact lstI_none e
  | some i => rw [e] at h2; cases h2
set_option maxHeartbeats 4000000 in
theorem kMatrix_bad (s : Sys) (w : World) (hs : s.At w) (hsm : SysSm s) (hrg : SysRg s) (ho : ¬ SysOk s) :
    Calls Tryd.prog 22 #[.agg #[.slice s.ba s.nb s.bc, .slice s.ra s.nr s.rc]] w fun e w' => e = .returned (.tuple #[.slice none 0 0, .int .i64 1]) ∧ Below w.heap.size w w' := by
  obtain ⟨w1, hw1⟩ : ∃ W, W = w.alloc (Obj.cells #[Value.slice s.ba s.nb s.bc, .slice s.ra s.nr s.rc] 36) := ⟨_, rfl⟩
  obtain ⟨xb, hxb⟩ : ∃ x, x = w.heap.size := ⟨_, rfl⟩
  have hC : C2 w1 xb (.slice s.ba s.nb s.bc) (.slice s.ra s.nr s.rc) := by rw [hw1, hxb]; exact C2.new _ _ _ _
  have hB : Below w.heap.size w w1 := by rw [hw1]; exact (Below.refl _ _).alloc (Nat.le_refl _) _
  have HB := Lib.hid hB
  have CV : Hid (Calls Tryd.prog 18 #[.agg #[.slice s.ba s.nb s.bc, .slice s.ra s.nr s.rc]] w1 fun e w' => e = .returned (.bool false) ∧ Below w1.heap.size w1 w') := kValid_any s w1 (hs.on hB) hsm hrg false ⟨fun h => (by cases h), fun h => absurd h ho⟩
  have c0 := hC.c0
  have c1 := hC.c1
  clear hs hC hB hsm hrg ho
  go_enter Tryd.func22, Tryd.ntmps22
  go_upto_region 1 with fail
  rw [← hxb, ← hw1]
  clear hxb hw1
  go_wp2_with (go_at_call 18; (with_reducible refine (CV.out.mono ?_)); rintro e w2 ⟨rfl, hb2⟩; have HB2 := Lib.hid (below_on HB.out hb2); clear hb2)
  go_ret2
  exact ⟨rfl, HB2.out⟩
set_option maxRecDepth 100000 in
set_option maxHeartbeats 16000000 in
theorem kMatrix_ok (s : Sys) (w : World) (hs : s.At w) (hsm : SysSm s) (hrg : SysRg s) (ho : SysOk s) :
    Calls Tryd.prog 22 #[.agg #[.slice s.ba s.nb s.bc, .slice s.ra s.nr s.rc]] w fun e w' => ∃ b G, e = .returned (.tuple #[.slice (some ⟨b, 0, none⟩) s.nb s.nb, .int .i64 0]) ∧ Grid w.heap.size w' b s.nb s.nr G (fun _ => s.nr) (mtx s) ∧ Below w.heap.size w w' := by
  have hb9 := hsm.b
  have hr9 := hsm.r
  have hb1 := ho.b1
  have hr1 := ho.r1
  obtain ⟨w1, hw1⟩ : ∃ W, W = w.alloc (Obj.cells #[Value.slice s.ba s.nb s.bc, .slice s.ra s.nr s.rc] 36) := ⟨_, rfl⟩
  obtain ⟨xb, hxb⟩ : ∃ x, x = w.heap.size := ⟨_, rfl⟩
  have hC : C2 w1 xb (.slice s.ba s.nb s.bc) (.slice s.ra s.nr s.rc) := by rw [hw1, hxb]; exact C2.new _ _ _ _
  have hB : Below w.heap.size w w1 := by rw [hw1]; exact (Below.refl _ _).alloc (Nat.le_refl _) _
  have HB := Lib.hid hB
  have CV : Hid (Calls Tryd.prog 18 #[.agg #[.slice s.ba s.nb s.bc, .slice s.ra s.nr s.rc]] w1 fun e w' => e = .returned (.bool true) ∧ Below w1.heap.size w1 w') := kValid_any s w1 (hs.on hB) hsm hrg true ⟨fun _ => ho, fun _ => rfl⟩
  obtain ⟨rb, ro, hre, hrb, hrc⟩ := (hs.on hB).r.l (by omega)
  rw [hre] at hC hw1 CV ⊢
  have HS := Lib.hid (hs.on hB)
  have HC := Lib.hid hC
  have HP := Lib.hid (And.intro hsm (And.intro hrg ho))
  have c0 := hC.c0
  have c1 := hC.c1
  obtain ⟨nb, hnb⟩ : ∃ x, s.nb = x := ⟨_, rfl⟩
  obtain ⟨nr, hnr⟩ : ∃ x, s.nr = x := ⟨_, rfl⟩
  have HNB := Lib.hid (And.intro hnb hnr)
  rw [hnb] at hb9 hb1 c0 CV hw1 ⊢
  rw [hnr] at hr9 hr1 c1 CV hw1 hrc ⊢
  have HT := Lib.hid (And.intro hrb hrc)
  clear hs hC hB hsm hrg ho hnb hnr hre hrb hrc
  go_enter Tryd.func22, Tryd.ntmps22
  go_upto_region 1 with fail
  rw [← hxb, ← hw1]
  clear hxb hw1
  go_upto_region 3 with (go_at_call 18; (with_reducible refine (CV.out.mono ?_)); rintro e w2 ⟨rfl, hb2⟩; have HB2 := Lib.hid hb2; clear hb2)
  clear c0 c1 CV
  have c0 := (HB2.out.cell (p := ⟨xb, 0, none⟩) HC.out.lt).trans HC.out.c0
  rw [HNB.out.1] at c0
  obtain ⟨i0, hi0, hz0, hz1, hz2⟩ := info_parts (show (Tryd.prog.info? 43).map (fun i => (i.zero, i.size, i.bytes)) = some (some (Value.slice none 0 0), 1, 24) by kernel_rfl)
  go_upto_region 4 with (refine wpList_make_full _ rfl _ _ 40 rfl w2.heap.size 43 i0 (.slice none 0 0) 1 Tryd.underlying40 hi0 hz0 hz1 _ _ _ _ nb rfl rfl rfl rfl (by rw [hz2]; omega) (by unfold maxLen; omega) (Nat.le_refl _) ?_; intro w3 ho hg)
  have hb3 : Below w2.heap.size w2 w3 := ⟨hg.os, hg.tape, hg.output, hg.size, fun k hk => hg.block k hk (by simp)⟩
  obtain ⟨b, hbb⟩ : ∃ x, x = w2.heap.size := ⟨_, rfl⟩
  have S0 : Hid (GrP w1.heap.size w3 b nb nr 0 (fun _ => 0) ∧ Below w1.heap.size w1 w3) := by
    have hl : b < w3.heap.size := by rw [hbb]; exact (ho.lt _ rfl).2
    refine ⟨⟨by have := HB2.out.size; omega, hl, fun l h => by omega, fun l _ hr => ?_, fun l hr => own_frozen ho (by rw [hbb]; rfl) l, fun l h => by omega, fun l k h => by omega, fun l j h => by omega, fun l j h => by omega⟩, below_on HB2.out hb3⟩
    have := ho.cells (g := w2.heap.size) rfl l (.slice none 0 0) (by
      rw [show (Value.slice none 0 0).cells = #[Value.slice none 0 0] by rfl, Nat.mul_one, toList_madeCells_one, List.getElem?_replicate, if_pos hr])
    rw [hbb]
    rwa [show (⟨w2.heap.size, 0, none⟩ : Addr).add l = ⟨w2.heap.size, l, none⟩ by unfold Addr.add; split <;> simp_all] at this
  rw [← hbb]
  clear ho hg hb3 hbb hi0 hz0 hz1 hz2 i0 c0 HB2
  obtain ⟨i0, hi0, hz0, hz1, hz2⟩ := info_parts (show (Tryd.prog.info? 3).map (fun i => (i.zero, i.size, i.bytes)) = some (some (Value.int IntKind.i64 0), 1, 8) by kernel_rfl)
  go_wp2_with fail
  go_loopg [22] nb (fun mm s22 wx => ∃ j : Nat, s22 = .int .i64 (j : Int) ∧ mm = nb - j ∧ j ≤ nb ∧ ∃ G, Hid (GrP w1.heap.size wx b nb nr j G ∧ Below w1.heap.size w1 wx))
  case atStart => exact ⟨0, rfl, rfl, Nat.zero_le _, _, S0⟩
  case round =>
    clear S0
    obtain ⟨j, rfl, rfl, hj, G0, S⟩ := hrel
    rename World => W1
    by_cases hlt : j < nb
    · have lk : (j : Int) < (nb : Int) := by omega
      have wk : IntKind.i64.wrap ((j : Int) + 1) = ((j + 1 : Nat) : Int) := by rw [IntWalk.i64_in _ (by omega)]; omega
      have c1 := (S.out.2.cell (p := ⟨xb, 1, none⟩) HC.out.lt).trans HC.out.c1
      rw [HNB.out.2] at c1
      go_wp2_with (refine wpList_make_full _ rfl _ _ 43 rfl W1.heap.size 3 i0 (.int .i64 0) 1 Tryd.underlying43 hi0 hz0 hz1 _ _ _ _ nr rfl rfl rfl rfl (by rw [hz2]; omega) (by unfold maxLen; omega) (Nat.le_refl _) ?_; intro w4 ho hg
                   have hb4 : Below W1.heap.size W1 w4 := ⟨hg.os, hg.tape, hg.output, hg.size, fun k hk => hg.block k hk (by simp)⟩
                   obtain ⟨g, hgg⟩ : ∃ x, x = W1.heap.size := ⟨_, rfl⟩
                   rw [← hgg] at ho
                   rw [← hgg]
                   have S2 := Lib.hid (S.out.1.on hb4)
                   have HB4 := Lib.hid (below_on S.out.2 hb4)
                   have HN := Lib.hid (NRow.made ho g (Nat.le_refl _))
                   have HD : Hid ((∀ l, l < j → G0 l ≠ g) ∧ w1.heap.size ≤ g ∧ g ≠ b) := ⟨fun l hl e => by have := (S.out.1.row l hl).2.1; omega, by have := S.out.2.size; omega, fun e => by have := S.out.1.hb; omega⟩
                   clear ho hg hb4 hgg S c1
                   have q1 := S2.out.rest j (Nat.le_refl _) hlt
                   have q2 := S2.out.tfz j hlt
                   have q3 := S2.out.hb)
      have T0 : Hid (GrP w1.heap.size (w4.setCell ⟨b, j, none⟩ (.slice (some ⟨g, 0, none⟩) nr nr)) b nb nr (j + 1) (fun l => if l = j then g else G0 l) ∧ Below w1.heap.size w1 (w4.setCell ⟨b, j, none⟩ (.slice (some ⟨g, 0, none⟩) nr nr))) :=
        ⟨S2.out.push g g hlt HN.out HD.out.2.1 HD.out.2.2 HD.out.1, HB4.out.setCell S2.out.lb _⟩
      clear q1 q2 q3 S2 HB4 HN HD
      go_roundg (nb - (j + 1))
      case measure => omega
      case rel => exact ⟨j + 1, rfl, rfl, by omega, _, T0⟩
    · have lk : ¬ (j : Int) < (nb : Int) := by omega
      have e : nb = j := by omega
      subst e
      have c0 := (S.out.2.cell (p := ⟨xb, 0, none⟩) HC.out.lt).trans HC.out.c0
      rw [HNB.out.1] at c0
      have hbl := (HS.out.on S.out.2).b
      rw [HNB.out.1] at hbl
      have CR := Lib.hid (rowsOf_any s.ba nb s.bc s.bn s.bw W1 hbl (fun i hi => by have := HP.out.1.bn i (by rw [HNB.out.1]; exact hi); omega) (by omega))
      have T1 : Hid (Grid w1.heap.size W1 b nb nr G0 (fun _ => nr) (fun _ _ => 0) ∧ Below w1.heap.size w1 W1) := ⟨S.out.1.grid, S.out.2⟩
      clear S hbl hi0 hz0 hz1 hz2 i0
      go_upto_region 10 with (go_at_call 62; (with_reducible refine (CR.out.mono ?_)); rintro e w5 ⟨mb, rfl, hmb, hix, hb5⟩
                              have M0 : Hid (MxS s w1 w5 b mb G0 (mxE s 0 0)) := ⟨below_on T1.out.2 hb5, by rw [HNB.out.1, HNB.out.2]; exact (T1.out.1.on hb5).congr (fun i k _ _ => mxE_0 s i k), by rw [HNB.out.1]; exact hix, fun e => by have := T1.out.1.hb; omega, fun i hi e => by rw [HNB.out.1] at hi; have := (T1.out.1.row i hi).2.1; omega⟩
                              clear hix hb5 hmb c0 CR T1)
      have c1 := (M0.out.st.cell (p := ⟨xb, 1, none⟩) HC.out.lt).trans HC.out.c1
      rw [HNB.out.2] at c1
      go_wp2_with fail
      clear c1 lk
      go_loopg [39] nr (fun mm s39 wx => ∃ k : Nat, s39 = .int .i64 (k : Int) ∧ mm = nr - k ∧ k ≤ nr ∧ Hid (MxS s w1 wx b mb G0 (mxE s k 0)))
      case atStart => exact ⟨0, rfl, rfl, Nat.zero_le _, M0⟩
      case round =>
        clear M0
        obtain ⟨k, rfl, rfl, hk, M⟩ := hrel
        rename World => W2
        by_cases hlk : k < nr
        · have lk : (k : Int) < (nr : Int) := by omega
          have wk : IntKind.i64.wrap ((k : Int) + 1) = ((k + 1 : Nat) : Int) := by rw [IntWalk.i64_in _ (by omega)]; omega
          have hro := HP.out.2.2.rop k (by rw [HNB.out.2]; exact hlk)
          have hrs := HP.out.1.rop HP.out.2.1 (k := k) (by rw [HNB.out.2]; exact hlk)
          obtain ⟨hb, ho, hhe, hhb, hhc⟩ := (HS.out.r.h k (by rw [HNB.out.2]; exact hlk)) (by have := hro.l2; omega)
          have HT2 := Lib.hid (And.intro hhb hhc)
          have hlt := hlk
          have p1 := (M.out.st.cell (p := ⟨rb, ro + k * 3, none⟩) HT.out.1).trans (HT.out.2 k hlt).1
          have p2 := (M.out.st.cell (p := ⟨rb, ro + k * 3 + 1, none⟩) HT.out.1).trans (HT.out.2 k hlt).2.1
          have p3 := (M.out.st.cell (p := ⟨rb, ro + k * 3 + 2, none⟩) HT.out.1).trans (HT.out.2 k hlt).2.2
          rw [hhe] at p2
          have HRS := Lib.hid (And.intro hro hrs)
          have hn13 := hrs.n
          obtain ⟨n, hn⟩ : ∃ n, (s.R k).n = n := ⟨_, rfl⟩
          rw [hn] at p2 hn13
          have HN := Lib.hid hn
          clear hro hrs hhe hhb hhc hn hlt
          go_upto_region 13 with fail
          obtain ⟨W3, hW3⟩ : ∃ W, W = W2.alloc (Obj.cells #[.string (s.R k).name, .slice (some ⟨hb, ho, none⟩) n (s.R k).hc, .bool (s.R k).hauled] 58) := ⟨_, rfl⟩
          obtain ⟨b8, hb8⟩ : ∃ x, x = W2.heap.size := ⟨_, rfl⟩
          have hCb8 : C3 W3 b8 (.string (s.R k).name) (.slice (some ⟨hb, ho, none⟩) n (s.R k).hc) (.bool (s.R k).hauled) := by rw [hW3, hb8]; exact C3.new _ _ _ _ _
          have HBb8 : Hid (Below W2.heap.size W2 W3) := by rw [hW3]; exact (Below.refl _ _).alloc (Nat.le_refl _) _
          rw [← hW3, ← hb8]
          clear hW3 hb8
          have c1 := hCb8.c1
          have M3 : Hid (MxS s w1 W3 b mb G0 (mxE s k 0)) := M.out.on HBb8.out
          clear p1 p2 p3 hCb8 HBb8 M
          go_wp2_with fail
          clear c1
          go_loopg [47] n (fun mm s47 wx => ∃ i : Nat, s47 = .int .i64 (i : Int) ∧ mm = n - i ∧ i ≤ n ∧ Hid (MxS s w1 wx b mb G0 (mxE s k i)))
          case atStart => exact ⟨0, rfl, rfl, Nat.zero_le _, M3⟩
          case round =>
            clear M3
            obtain ⟨i, rfl, rfl, hi, M⟩ := hrel
            rename World => W4
            by_cases hli : i < n
            · have li : (i : Int) < (n : Int) := by omega
              have wi : IntKind.i64.wrap ((i : Int) + 1) = ((i + 1 : Nat) : Int) := by rw [IntWalk.i64_in _ (by omega)]; omega
              have hlt : i < (s.R k).n := by rw [HN.out]; exact hli
              have p1 := (M.out.st.cell (p := ⟨hb, ho + i * 4, none⟩) HT2.out.1).trans (HT2.out.2 i hlt).1
              have p2 := (M.out.st.cell (p := ⟨hb, ho + i * 4 + 1, none⟩) HT2.out.1).trans (HT2.out.2 i hlt).2.1
              have p3 := (M.out.st.cell (p := ⟨hb, ho + i * 4 + 2, none⟩) HT2.out.1).trans (HT2.out.2 i hlt).2.2.1
              have p4 := (M.out.st.cell (p := ⟨hb, ho + i * 4 + 3, none⟩) HT2.out.1).trans (HT2.out.2 i hlt).2.2.2
              have hz := HRS.out.2.b i hlt
              have hpb := hld_pulls (HRS.out.1.hs i hlt)
              go_upto_region 16 with fail
              obtain ⟨W5, hW5⟩ : ∃ W, W = W4.alloc (Obj.cells #[.string ((s.R k).hs i).blk, .int .i64 ((s.R k).hs i).pulls, .int .i64 ((s.R k).hs i).num, .int .i64 ((s.R k).hs i).den] 64) := ⟨_, rfl⟩
              obtain ⟨b10, hb10⟩ : ∃ x, x = W4.heap.size := ⟨_, rfl⟩
              have hCb10 : C4 W5 b10 (.string ((s.R k).hs i).blk) (.int .i64 ((s.R k).hs i).pulls) (.int .i64 ((s.R k).hs i).num) (.int .i64 ((s.R k).hs i).den) := by rw [hW5, hb10]; exact C4.new _ _ _ _ _ _
              have HBb10 : Hid (Below W4.heap.size W4 W5) := by rw [hW5]; exact (Below.refl _ _).alloc (Nat.le_refl _) _
              rw [← hW5, ← hb10]
              clear hW5 hb10
              have c0 := hCb10.c0
              have c1 := hCb10.c1
              have c1l := hCb10.lt
              have M5 : Hid (MxS s w1 W5 b mb G0 (mxE s k i)) := M.out.on HBb10.out
              clear p1 p2 p3 p4 hCb10 HBb10 M hlt
              obtain ⟨q, hq⟩ : ∃ q, (lstI s.bn ((s.R k).hs i).blk s.nb).getD 0 = q := ⟨_, rfl⟩
              obtain ⟨t, ht⟩ : ∃ t, (lstI s.bn ((s.R k).hs i).blk s.nb).isSome = t := ⟨_, rfl⟩
              have HTT := Lib.hid (And.intro hq ht)
              clear hq ht
              cases t
              · have M6 : Hid (MxS s w1 W5 b mb G0 (mxE s k (i + 1))) := M5.out.congr (mxE_miss (lst_no HTT.out.2))
                go_wp2_with (at_lookup; refine wpList_ixm _ rfl rfl _ _ rfl mb s.nb s.bn rfl M5.out.m ((s.R k).hs i).blk rfl (by unfold maxLen; omega) q false HTT.out.1 HTT.out.2 ?_)
                go_roundg (n - (i + 1))
                case measure => omega
                case rel => exact ⟨i + 1, rfl, rfl, by omega, M6⟩
              · obtain ⟨hq1, hq2⟩ := lst_q HTT.out.1 HTT.out.2 rfl
                have hk2 : k < s.nr := by rw [HNB.out.2]; exact hlk
                have hbd := pul_bd HRS.out.1 (s.bn q) i (by rw [HN.out]; exact hi)
                have HH := Lib.hid (mxE_hit HP.out.2.2 hq1 hq2 (k := k) (i := i))
                have hat := mxE_at s k i q
                have HQ := Lib.hid (And.intro hq1 hk2)
                have lq : (q : Int) < (nb : Int) := by have := hq1; have := HNB.out.1; omega
                have LT : Hid (W5.cell? ⟨b, q, none⟩ = some (.slice (some ⟨G0 q, 0, none⟩) nr nr) ∧ b < W5.heap.size) := ⟨by rw [M5.out.g.top q hq1, HNB.out.2], M5.out.g.hb⟩
                have LE : Hid (W5.cell? ⟨G0 q, k, none⟩ = some (.int .i64 (mxE s k i q k)) ∧ G0 q < W5.heap.size) := ⟨M5.out.g.cell q k hq1 hk2, (M5.out.g.row q hq1).2.1⟩
                have LP : Hid (W5.cell? ⟨b10, 1, none⟩ = some (.int .i64 ((s.R k).hs i).pulls) ∧ b10 < W5.heap.size) := ⟨c1, c1l⟩
                rw [← hat] at hbd
                obtain ⟨ev, hev⟩ : ∃ z, mxE s k i q k = z := ⟨_, rfl⟩
                obtain ⟨pl, hpl⟩ : ∃ z, ((s.R k).hs i).pulls = z := ⟨_, rfl⟩
                rw [hev] at LE HH hbd
                rw [hpl] at LP HH hpb c1
                have we : IntKind.i64.wrap (ev + pl) = ev + pl := IntWalk.i64_in _ (by omega)
                have HEV := Lib.hid (And.intro hev hpl)
                clear hq1 hq2 hk2 hbd hat hev
                rw [hpl]
                clear hpl
                go_upto_region 18 with (at_lookup; refine wpList_ixm _ rfl rfl _ _ rfl mb s.nb s.bn rfl M5.out.m ((s.R k).hs i).blk rfl (by unfold maxLen; omega) q true HTT.out.1 HTT.out.2 ?_)
                clear c0 c1 hz hpb
                refine wp_region_each (fun L A W => ∃ (v : Nat → Value), A = ⟨#[_, _, _, _, _, _, _, _, _, _, _, _, _, _, _, _, _, _, _, _, _, _, _, _, _, _, _, _, _, _, _, _, _, _, _, _, _, _, _, _, _, _, _, _, _, _, _, _, _, _, _, _, _, _, _, _, _, _, _, v 59, v 60, v 61, v 62, v 63, v 64, v 65, v 66, v 67, v 68, v 69, _, _, _], []⟩ ∧ KmxR b b10 nb nr q k G0 ev pl W5 L v W) (by kernel_rfl) (by kernel_rfl) ⟨fun jz => if jz = 59 then u59 else if jz = 60 then u60 else if jz = 61 then u61 else if jz = 62 then u62 else if jz = 63 then u63 else if jz = 64 then u64 else if jz = 65 then u65 else if jz = 66 then u66 else if jz = 67 then u67 else if jz = 68 then u68 else if jz = 69 then u69 else undef, rfl, ⟨(fun _ => Below.drew (Below.refl _ _)), Had.none, Had.none, Had.none, Had.none, Had.none, Had.none, Had.none, Had.none, Had.none, Had.none, Had.none, Had.none, Had.none, Had.none, Had.none, Had.none, Had.none, Had.none, Had.none, Had.none⟩⟩ (rs := [0, 1, 2, 3, 4, 5, 6, 7, 8, 9, 10, 11]) (by kernel_rfl) ?_ ?_
                · refine EachOf.cons [] rfl (by kernel_rfl) ?_ ?_
                  · rintro L A W ⟨v, rfl, hR⟩ hi hw K hK
                    have hk : L 11 = false := hR.w11.not hi rfl
                    go_simp
                    refine hK.out _ _ ?_
                    exact ⟨(fun jz => if jz = 59 then .slice (some ⟨b, 0, none⟩) (nb) (nb) else v jz), rfl, ⟨(fun h => hR.st (upd_false h)), hR.s1.k, hR.w2.o, hR.w3.o, hR.w5.o, hR.w6.o, hR.w8.o, hR.w9.o, hR.w10.o, hR.w11.o, (fun _ => rfl), hR.f1.k, hR.f2.k, hR.f3.k, hR.f4.k, hR.f5.k, hR.f6.k, hR.f7.k, hR.f8.k, hR.f9.k, hR.f10.k⟩⟩
                  refine EachOf.cons [] rfl (by kernel_rfl) ?_ ?_
                  · rintro L A W ⟨v, rfl, hR⟩ hi hw K hK
                    have hk : L 11 = false := hR.w11.not hi rfl
                    go_simp
                    refine hK.out _ _ ?_
                    exact ⟨(fun jz => if jz = 60 then .int .i64 (q : Int) else v jz), rfl, ⟨(fun h => hR.st (upd_false h)), hR.s1.k, hR.w2.o, hR.w3.o, hR.w5.o, hR.w6.o, hR.w8.o, hR.w9.o, hR.w10.o, hR.w11.o, hR.f0.k, (fun _ => rfl), hR.f2.k, hR.f3.k, hR.f4.k, hR.f5.k, hR.f6.k, hR.f7.k, hR.f8.k, hR.f9.k, hR.f10.k⟩⟩
                  refine EachOf.cons [0, 1] rfl (by kernel_rfl) ?_ ?_
                  · rintro L A W ⟨v, rfl, hR⟩ hi hw K hK
                    have hk : L 11 = false := hR.w11.not hi rfl
                    have e0 := hR.f0 (hw 0 (by simp))
                    have e1 := hR.f1 (hw 1 (by simp))
                    simp only [e0, e1]
                    clear e0 e1
                    go_simp
                    refine hK.out _ _ ?_
                    exact ⟨(fun jz => if jz = 59 then .slice (some ⟨b, 0, none⟩) (nb) (nb) else if jz = 60 then .int .i64 (q : Int) else if jz = 61 then .pointer (some ⟨b, q, none⟩) else v jz), rfl, ⟨(fun h => hR.st (upd_false h)), hR.s1.k, (fun _ j hj => upd_on (hw j hj)), hR.w3.o, hR.w5.o, hR.w6.o, hR.w8.o, hR.w9.o, hR.w10.o, hR.w11.o, (fun _ => rfl), (fun _ => rfl), (fun _ => rfl), hR.f3.k, hR.f4.k, hR.f5.k, hR.f6.k, hR.f7.k, hR.f8.k, hR.f9.k, hR.f10.k⟩⟩
                  refine EachOf.cons [2] rfl (by kernel_rfl) ?_ ?_
                  · rintro L A W ⟨v, rfl, hR⟩ hi hw K hK
                    have hk : L 11 = false := hR.w11.not hi rfl
                    have e2 := hR.f2 (hw 2 (by simp))
                    simp only [e2]
                    clear e2
                    have q0 := ((hR.st hk).cell (p := ⟨b, q, none⟩) LT.out.2).trans LT.out.1
                    go_simp
                    refine hK.out _ _ ?_
                    exact ⟨(fun jz => if jz = 61 then .pointer (some ⟨b, q, none⟩) else if jz = 62 then .slice (some ⟨(G0 q), 0, none⟩) (nr) (nr) else v jz), rfl, ⟨(fun h => hR.st (upd_false h)), hR.s1.k, hR.w2.o, (fun _ j hj => upd_on (hw j hj)), hR.w5.o, hR.w6.o, hR.w8.o, hR.w9.o, hR.w10.o, hR.w11.o, hR.f0.k, hR.f1.k, (fun _ => rfl), (fun _ => rfl), hR.f4.k, hR.f5.k, hR.f6.k, hR.f7.k, hR.f8.k, hR.f9.k, hR.f10.k⟩⟩
                  refine EachOf.cons [] rfl (by kernel_rfl) ?_ ?_
                  · rintro L A W ⟨v, rfl, hR⟩ hi hw K hK
                    have hk : L 11 = false := hR.w11.not hi rfl
                    go_simp
                    refine hK.out _ _ ?_
                    exact ⟨(fun jz => if jz = 63 then .int .i64 (k : Int) else v jz), rfl, ⟨(fun h => hR.st (upd_false h)), hR.s1.k, hR.w2.o, hR.w3.o, hR.w5.o, hR.w6.o, hR.w8.o, hR.w9.o, hR.w10.o, hR.w11.o, hR.f0.k, hR.f1.k, hR.f2.k, hR.f3.k, (fun _ => rfl), hR.f5.k, hR.f6.k, hR.f7.k, hR.f8.k, hR.f9.k, hR.f10.k⟩⟩
                  refine EachOf.cons [3, 4] rfl (by kernel_rfl) ?_ ?_
                  · rintro L A W ⟨v, rfl, hR⟩ hi hw K hK
                    have hk : L 11 = false := hR.w11.not hi rfl
                    have e3 := hR.f3 (hw 3 (by simp))
                    have e4 := hR.f4 (hw 4 (by simp))
                    simp only [e3, e4]
                    clear e3 e4
                    go_simp
                    refine hK.out _ _ ?_
                    exact ⟨(fun jz => if jz = 62 then .slice (some ⟨(G0 q), 0, none⟩) (nr) (nr) else if jz = 63 then .int .i64 (k : Int) else if jz = 64 then .pointer (some ⟨(G0 q), k, none⟩) else v jz), rfl, ⟨(fun h => hR.st (upd_false h)), hR.s1.k, hR.w2.o, hR.w3.o, (fun _ j hj => upd_on (hw j hj)), hR.w6.o, hR.w8.o, hR.w9.o, hR.w10.o, hR.w11.o, hR.f0.k, hR.f1.k, hR.f2.k, (fun _ => rfl), (fun _ => rfl), (fun _ => rfl), hR.f6.k, hR.f7.k, hR.f8.k, hR.f9.k, hR.f10.k⟩⟩
                  refine EachOf.cons [5] rfl (by kernel_rfl) ?_ ?_
                  · rintro L A W ⟨v, rfl, hR⟩ hi hw K hK
                    have hk : L 11 = false := hR.w11.not hi rfl
                    have e5 := hR.f5 (hw 5 (by simp))
                    simp only [e5]
                    clear e5
                    have q0 := ((hR.st hk).cell (p := ⟨(G0 q), k, none⟩) LE.out.2).trans LE.out.1
                    go_simp
                    refine hK.out _ _ ?_
                    exact ⟨(fun jz => if jz = 64 then .pointer (some ⟨(G0 q), k, none⟩) else if jz = 65 then .int .i64 ev else v jz), rfl, ⟨(fun h => hR.st (upd_false h)), hR.s1.k, hR.w2.o, hR.w3.o, hR.w5.o, (fun _ j hj => upd_on (hw j hj)), hR.w8.o, hR.w9.o, hR.w10.o, hR.w11.o, hR.f0.k, hR.f1.k, hR.f2.k, hR.f3.k, hR.f4.k, (fun _ => rfl), (fun _ => rfl), hR.f7.k, hR.f8.k, hR.f9.k, hR.f10.k⟩⟩
                  refine EachOf.cons [] rfl (by kernel_rfl) ?_ ?_
                  · rintro L A W ⟨v, rfl, hR⟩ hi hw K hK
                    have hk : L 11 = false := hR.w11.not hi rfl
                    go_simp
                    refine hK.out _ _ ?_
                    exact ⟨(fun jz => if jz = 66 then .pointer (some ⟨b10, 1, none⟩) else v jz), rfl, ⟨(fun h => hR.st (upd_false h)), hR.s1.k, hR.w2.o, hR.w3.o, hR.w5.o, hR.w6.o, hR.w8.o, hR.w9.o, hR.w10.o, hR.w11.o, hR.f0.k, hR.f1.k, hR.f2.k, hR.f3.k, hR.f4.k, hR.f5.k, hR.f6.k, (fun _ => rfl), hR.f8.k, hR.f9.k, hR.f10.k⟩⟩
                  refine EachOf.cons [7] rfl (by kernel_rfl) ?_ ?_
                  · rintro L A W ⟨v, rfl, hR⟩ hi hw K hK
                    have hk : L 11 = false := hR.w11.not hi rfl
                    have e7 := hR.f7 (hw 7 (by simp))
                    simp only [e7]
                    clear e7
                    have q0 := ((hR.st hk).cell (p := ⟨b10, 1, none⟩) LP.out.2).trans LP.out.1
                    go_simp
                    refine hK.out _ _ ?_
                    exact ⟨(fun jz => if jz = 66 then .pointer (some ⟨b10, 1, none⟩) else if jz = 67 then .int .i64 pl else v jz), rfl, ⟨(fun h => hR.st (upd_false h)), hR.s1.k, hR.w2.o, hR.w3.o, hR.w5.o, hR.w6.o, (fun _ j hj => upd_on (hw j hj)), hR.w9.o, hR.w10.o, hR.w11.o, hR.f0.k, hR.f1.k, hR.f2.k, hR.f3.k, hR.f4.k, hR.f5.k, hR.f6.k, (fun _ => rfl), (fun _ => rfl), hR.f9.k, hR.f10.k⟩⟩
                  refine EachOf.cons [6, 8] rfl (by kernel_rfl) ?_ ?_
                  · rintro L A W ⟨v, rfl, hR⟩ hi hw K hK
                    have hk : L 11 = false := hR.w11.not hi rfl
                    have e6 := hR.f6 (hw 6 (by simp))
                    have e8 := hR.f8 (hw 8 (by simp))
                    simp only [e6, e8]
                    clear e6 e8
                    go_simp
                    refine hK.out _ _ ?_
                    exact ⟨(fun jz => if jz = 65 then .int .i64 ev else if jz = 67 then .int .i64 pl else if jz = 68 then .int .i64 (ev + pl) else v jz), rfl, ⟨(fun h => hR.st (upd_false h)), hR.s1.k, hR.w2.o, hR.w3.o, hR.w5.o, hR.w6.o, hR.w8.o, (fun _ j hj => upd_on (hw j hj)), hR.w10.o, hR.w11.o, hR.f0.k, hR.f1.k, hR.f2.k, hR.f3.k, hR.f4.k, hR.f5.k, (fun _ => rfl), hR.f7.k, (fun _ => rfl), (fun _ => rfl), hR.f10.k⟩⟩
                  refine EachOf.cons [3, 4] rfl (by kernel_rfl) ?_ ?_
                  · rintro L A W ⟨v, rfl, hR⟩ hi hw K hK
                    have hk : L 11 = false := hR.w11.not hi rfl
                    have e3 := hR.f3 (hw 3 (by simp))
                    have e4 := hR.f4 (hw 4 (by simp))
                    simp only [e3, e4]
                    clear e3 e4
                    go_simp
                    refine hK.out _ _ ?_
                    exact ⟨(fun jz => if jz = 62 then .slice (some ⟨(G0 q), 0, none⟩) (nr) (nr) else if jz = 63 then .int .i64 (k : Int) else if jz = 69 then .pointer (some ⟨(G0 q), k, none⟩) else v jz), rfl, ⟨(fun h => hR.st (upd_false h)), hR.s1.k, hR.w2.o, hR.w3.o, hR.w5.o, hR.w6.o, hR.w8.o, hR.w9.o, (fun _ j hj => upd_on (hw j hj)), hR.w11.o, hR.f0.k, hR.f1.k, hR.f2.k, (fun _ => rfl), (fun _ => rfl), hR.f5.k, hR.f6.k, hR.f7.k, hR.f8.k, hR.f9.k, (fun _ => rfl)⟩⟩
                  refine EachOf.cons [0, 1, 2, 3, 4, 5, 6, 7, 8, 9, 10] rfl (by kernel_rfl) ?_ ?_
                  · rintro L A W ⟨v, rfl, hR⟩ hi hw K hK
                    have e10 := hR.f10 (hw 10 (by simp))
                    have e9 := hR.f9 (hw 9 (by simp))
                    simp only [e10, e9]
                    clear e10 e9
                    have hM5 := M5.out.on (hR.st hi)
                    have z0 := hM5.g.cell q k HQ.out.1 HQ.out.2
                    have y0 := hM5.g.fz q k HQ.out.1 HQ.out.2
                    have yl := (hM5.g.row q HQ.out.1).2.1
                    clear hM5
                    go_simp
                    refine hK.out _ _ ?_
                    exact ⟨(fun jz => if jz = 69 then .pointer (some ⟨(G0 q), k, none⟩) else if jz = 68 then .int .i64 (ev + pl) else v jz), rfl, ⟨(fun h => by simp [upd_self] at h), (fun _ => ⟨W, hR.st hi, rfl⟩), hR.w2.o, hR.w3.o, hR.w5.o, hR.w6.o, hR.w8.o, hR.w9.o, hR.w10.o, (fun _ j hj => upd_on (hw j hj)), hR.f0.k, hR.f1.k, hR.f2.k, hR.f3.k, hR.f4.k, hR.f5.k, hR.f6.k, hR.f7.k, hR.f8.k, (fun _ => rfl), (fun _ => rfl)⟩⟩
                  exact EachOf.nil
                rintro L A W6 ⟨vs, rfl, hR⟩ hL
                obtain ⟨W7, hb7, hW0⟩ := hR.s1 (hL 11 (by simp))
                have M8 : Hid (MxS s w1 W6 b mb G0 (mxE s k (i + 1))) := by
                  rw [hW0]
                  exact ((M5.out.on hb7).set HQ.out.1 HQ.out.2 (ev + pl)).congr HH.out
                clear hR hL hb7 hW0 M5 LT LE LP
                go_wp2_with fail
                go_roundg (n - (i + 1))
                case measure => omega
                case rel => exact ⟨i + 1, rfl, rfl, by omega, M8⟩
            · have li : ¬ (i : Int) < (n : Int) := by omega
              have e : i = n := by omega
              subst e
              have M6 : Hid (MxS s w1 W4 b mb G0 (mxE s (k + 1) 0)) := M.out.congr (fun r c _ => by rw [mxE_next, HN.out])
              clear M
              go_wp2_with fail
              go_roundg (nr - (k + 1))
              case measure => omega
              case rel => exact ⟨k + 1, rfl, rfl, by omega, M6⟩
        · have lk : ¬ (k : Int) < (nr : Int) := by omega
          have e : k = nr := by omega
          subst e
          have R0 : Hid (Grid w1.heap.size W2 b nb k G0 (fun _ => k) (mtx s) ∧ Below w.heap.size w W2) := ⟨by
            have := M.out.g
            rw [HNB.out.1, HNB.out.2] at this
            exact this.congr (fun i c _ hc => (by have := mxE_end s i c (by rw [HNB.out.2]; exact hc); rw [HNB.out.2] at this; exact this.symm)), below_on HB.out M.out.st⟩
          have HW := Lib.hid HB.out.size
          clear M
          go_wp2_with fail
          go_ret2
          exact ⟨b, rfl, ⟨G0, R0.out.1.low HW.out⟩, R0.out.2⟩
end Go.Proofs.YtcghjjfpjiacfaaDoor
