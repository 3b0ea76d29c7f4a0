/- Layer 4: the matrix whose rows are the columns; the rows that do not depend on those before them. -/
import Derived.Test.YtjggnmbdgagkoaaLNulls
import Derived.Test.YtjggnmbdgagkoaaLRM
namespace Go.Proofs.Ytjggnmbdgagkoaa
set_option linter.unusedVariables false
open Go.RowKit Go.Shelf

structure TrnR (cb R n i j : Nat) (G C Ga Oa Ka : Nat → Nat) (vz : Int) (Wc : World) (L : Nat → Bool) (v : Nat → Value) (W : World) : Prop where
  st : L 10 = false → Below Wc.heap.size Wc W
  s1 : Had L 10 (∃ W2, Below Wc.heap.size Wc W2 ∧ W = W2.setCell ⟨G j, i, none⟩ (.int .i64 vz))
  w2 : Had L 2 (∀ j ∈ [0, 1], L j = true)
  w3 : Had L 3 (∀ j ∈ [2], L j = true)
  w7 : Had L 7 (∀ j ∈ [5, 6], L j = true)
  w8 : Had L 8 (∀ j ∈ [7], L j = true)
  w9 : Had L 9 (∀ j ∈ [3, 4], L j = true)
  w10 : Had L 10 (∀ j ∈ [0, 1, 2, 3, 4, 5, 6, 7, 8, 9], L j = true)
  f0 : Had L 0 (v 30 = .slice (some ⟨cb, 0, none⟩) (n) (n))
  f1 : Had L 1 (v 31 = .int .i64 (j : Int))
  f2 : Had L 2 (v 32 = .pointer (some ⟨cb, j, none⟩))
  f3 : Had L 3 (v 33 = .slice (some ⟨G j, 0, none⟩) (R) (C j))
  f4 : Had L 4 (v 34 = .int .i64 (i : Int))
  f5 : Had L 5 (v 35 = .slice (some ⟨Ga i, Oa i, none⟩) (n) (Ka i))
  f6 : Had L 6 (v 36 = .int .i64 (j : Int))
  f7 : Had L 7 (v 37 = .pointer (some ⟨Ga i, Oa i + j, none⟩))
  f8 : Had L 8 (v 38 = .int .i64 vz)
  f9 : Had L 9 (v 39 = .pointer (some ⟨G j, i, none⟩))

/-- The row j while it is filled. -/
def trF (Z : Nat → Nat → Int) (j i : Nat) : Nat → Nat → Int := fun l k => if l = j then (if k < i then Z k l else 0) else Z k l
theorem Ext.setc {W : World} {ab R n1 i : Nat} {G C : Nat → Nat} {F F2 : Nat → Nat → Int} (h : Ext W ab R n1 i G C F) (j k : Nat) (v : Int) (hj : j < i) (hk : k < n1) (hd : ∀ l, l < i → l ≠ j → G l ≠ G j) (e1 : F2 j k = v) (e2 : ∀ l c, l < i → c < n1 → ¬ (l = j ∧ c = k) → F2 l c = F l c) : Ext (W.setCell ⟨G j, k, none⟩ (.int .i64 v)) ab R n1 i G C F2 := by
  have hr := h.row j hj
  have hne : G j ≠ ab := by have := hr.lo; omega
  refine ⟨by simpa using h.hb, fun l hl => ?_, fun l hl hr => ?_, fun l hl => by simpa using h.fz l hl, fun l hl => ?_⟩
  · rw [World.cell?_setCell_far _ _ _ _ hne]; exact h.top l hl
  · rw [World.cell?_setCell_far _ _ _ _ hne]; exact h.rest l hl hr
  · have hl2 := h.row l hl
    refine ⟨hl2.lo, by simpa using hl2.hb, hl2.cap, fun c hc => ?_, fun c hc => by simpa using hl2.fz c hc⟩
    by_cases e : l = j
    · subst e
      by_cases g : c = k
      · subst g
        rw [e1]
        exact World.cell?_setCell_same' _ _ _ (by rw [hl2.cell c hc]; rfl)
      · rw [e2 l c hl hc (fun q => g q.2), World.cell?_setCell_other _ _ _ _ (adr_ne (b := G l) (i := k) (j := c) (fun q => g q.symm))]
        exact hl2.cell c hc
    · rw [e2 l c hl hc (fun q => e q.1), World.cell?_setCell_far _ _ _ _ (fun q => hd l hl e q.symm)]
      exact hl2.cell c hc
theorem Ext.congr {W : World} {ab R n1 i : Nat} {G C : Nat → Nat} {F F2 : Nat → Nat → Int} (h : Ext W ab R n1 i G C F) (e : ∀ l c, l < i → c < n1 → F2 l c = F l c) : Ext W ab R n1 i G C F2 :=
  ⟨h.hb, h.top, h.rest, h.fz, fun l hl => ⟨(h.row l hl).lo, (h.row l hl).hb, (h.row l hl).cap, fun c hc => by rw [e l c hl hc]; exact (h.row l hl).cell c hc, (h.row l hl).fz⟩⟩
theorem NRow.made {W : World} {base g n : Nat} (h : W.ownsRow base 3 1 (.slice (some ⟨g, 0, none⟩) n n) n (madeCells (Value.int .i64 0).cells (n * 1)).toList) (lo : Nat) (hl : lo ≤ g) : NRow lo n W g n (fun _ => 0) := by
  refine ⟨hl, (h.lt g rfl).2, Nat.le_refl _, fun j hj => ?_, fun j hj => own_frozen h rfl j⟩
  have := h.cells (g := g) rfl j (.int .i64 0) (by
    rw [show (Value.int .i64 0).cells = #[Value.int .i64 0] by rfl, Nat.mul_one, toList_madeCells_one, List.getElem?_replicate, if_pos hj])
  rwa [show (⟨g, 0, none⟩ : Addr).add j = ⟨g, j, none⟩ by unfold Addr.add; split <;> simp_all] at this

set_option maxRecDepth 100000 in
set_option maxHeartbeats 16000000 in
theorem transposed_any (mb mo mc R n : Nat) (Ga Oa Ka : Nat → Nat) (Z : Nat → Nat → Int) (w : World) (hM : Mat w mb mo R n Ga Oa Ka Z) (hR0 : 0 < R) (hR12 : R ≤ 12) (hn0 : 0 < n) (hn12 : n ≤ 12) :
    Calls Try.prog 45 #[.slice (some ⟨mb, mo, none⟩) R mc] w fun e w' => ∃ cb G C, e = .returned (.slice (some ⟨cb, 0, none⟩) n n) ∧ Below w.heap.size w w' ∧ Mat w' cb 0 n R G (fun _ => 0) C (fun l i => Z i l) := by
  have HM := Lib.hid hM
  have p0 := hM.top 0 hR0
  rw [Nat.add_zero] at p0
  clear hM
  go_enter Try.func45, Try.ntmps45
  obtain ⟨i0, hi0, hz0, hz1, hz2⟩ := info_parts (show (Try.prog.info? 29).map (fun i => (i.zero, i.size, i.bytes)) = some (some (Value.slice none 0 0), 1, 24) by kernel_rfl)
  go_upto_region 2 with (refine wpList_make_full _ rfl _ _ 23 rfl w.heap.size 29 i0 (.slice none 0 0) 1 Try.underlying23 hi0 hz0 hz1 _ _ _ _ n rfl rfl rfl rfl (by rw [hz2]; omega) (by unfold maxLen; omega) (Nat.le_refl _) ?_; intro w1 ho hg)
  have hb1 : Below w.heap.size w w1 := ⟨hg.os, hg.tape, hg.output, hg.size, fun k hk => hg.block k hk (by simp)⟩
  obtain ⟨cb, hcb⟩ : ∃ x, x = w.heap.size := ⟨_, rfl⟩
  have S0 : Hid (Ext w1 cb n R 0 (fun _ => 0) (fun _ => 0) (fun l i => Z i l) ∧ Below w.heap.size w w1) := by
    have hl : cb < w1.heap.size := by rw [hcb]; exact (ho.lt _ rfl).2
    refine ⟨⟨hl, fun l h => by omega, fun l _ hr => ?_, fun l hr => own_frozen ho (by rw [hcb]; rfl) l, fun l h => by omega⟩, hb1⟩
    have := ho.cells (g := w.heap.size) rfl l (.slice none 0 0) (by
      rw [show (Value.slice none 0 0).cells = #[Value.slice none 0 0] by rfl, Nat.mul_one, toList_madeCells_one, List.getElem?_replicate, if_pos hr])
    rw [hcb]
    rwa [show (⟨w.heap.size, 0, none⟩ : Addr).add l = ⟨w.heap.size, l, none⟩ by unfold Addr.add; split <;> simp_all] at this
  have HA := Lib.hid hcb
  rw [← hcb]
  clear ho hg hb1 hcb hi0 hz0 hz1 hz2 i0 p0
  obtain ⟨i0, hi0, hz0, hz1, hz2⟩ := info_parts (show (Try.prog.info? 3).map (fun i => (i.zero, i.size, i.bytes)) = some (some (Value.int IntKind.i64 0), 1, 8) by kernel_rfl)
  go_wp2_with fail
  go_loopg [14] n (fun g s14 wx => ∃ j : Nat, s14 = .int .i64 j ∧ g = n - j ∧ j ≤ n ∧ ∃ G C, Hid (Ext wx cb n R j G C (fun l i => Z i l) ∧ Below w.heap.size w wx))
  case atStart => exact ⟨0, rfl, rfl, Nat.zero_le _, _, _, S0⟩
  case round =>
    clear S0
    obtain ⟨j, rfl, rfl, hj, G0, C0, S⟩ := hrel
    rename World => W1
    by_cases hlt : j < n
    · have wk : IntKind.i64.wrap ((j : Int) + 1) = ((j + 1 : Nat) : Int) := by rw [IntWalk.i64_in _ (by omega)]; omega
      go_wp2_with (refine wpList_make_full _ rfl _ _ 29 rfl W1.heap.size 3 i0 (.int .i64 0) 1 Try.underlying29 hi0 hz0 hz1 _ _ _ _ R rfl rfl rfl rfl (by rw [hz2]; omega) (by unfold maxLen; omega) (Nat.le_refl _) ?_; intro w2 ho hg
                   have hb2 : Below W1.heap.size W1 w2 := ⟨hg.os, hg.tape, hg.output, hg.size, fun k hk => hg.block k hk (by simp)⟩
                   obtain ⟨g, hgg⟩ : ∃ x, x = W1.heap.size := ⟨_, rfl⟩
                   rw [← hgg] at ho
                   rw [← hgg]
                   have S2 := Lib.hid (S.out.1.on hb2)
                   have HB2 := Lib.hid (below_on S.out.2 hb2)
                   have HN := Lib.hid (NRow.made ho (cb + 1) (by have := S.out.1.hb; omega))
                   have HD : Hid (∀ l, l < j → G0 l ≠ g) := fun l hl e => by have := (S.out.1.row l hl).hb; omega
                   clear ho hg hb2 hgg S
                   have q1 := S2.out.rest j (Nat.le_refl _) hlt
                   have q2 := S2.out.fz j hlt)
      have T0 : Hid ((Ext (w2.setCell ⟨cb, j, none⟩ (.slice (some ⟨g, 0, none⟩) R R)) cb n R (j + 1) (updN G0 j g) (updN C0 j R) (trF Z j 0) ∧ Below w.heap.size w (w2.setCell ⟨cb, j, none⟩ (.slice (some ⟨g, 0, none⟩) R R))) ∧ ∀ l, l < j + 1 → l ≠ j → updN G0 j g l ≠ updN G0 j g j) :=
        ⟨⟨(S2.out.congr (F2 := trF Z j 0) (fun l c hl hc => by unfold trF; rw [if_neg (by omega)])).push g R hlt (by
            have e : trF Z j 0 j = fun _ => 0 := by funext k; unfold trF; rw [if_pos rfl, if_neg (by omega)]
            rw [e]; exact HN.out), HB2.out.setCell (by show w.heap.size ≤ cb; rw [HA.out]; exact Nat.le_refl _) _⟩,
          fun l hl hne => by unfold updN; rw [if_neg hne, if_pos rfl]; exact HD.out l (by omega)⟩
      clear q1 q2 S2 HB2 HN HD
      generalize w2.setCell ⟨cb, j, none⟩ (.slice (some ⟨g, 0, none⟩) R R) = W2 at *
      generalize updN G0 j g = G at *
      generalize updN C0 j R = C at *
      go_wp2_with fail
      go_loopg [25] R (fun g s25 wx => ∃ i : Nat, s25 = .int .i64 i ∧ g = R - i ∧ i ≤ R ∧ Hid ((Ext wx cb n R (j + 1) G C (trF Z j i) ∧ Below w.heap.size w wx) ∧ ∀ l, l < j + 1 → l ≠ j → G l ≠ G j))
      case atStart => exact ⟨0, rfl, rfl, Nat.zero_le _, T0⟩
      case round =>
        clear T0
        obtain ⟨i, rfl, rfl, hi, T⟩ := hrel
        rename World => W3
        by_cases hlti : i < R
        · have wki : IntKind.i64.wrap ((i : Int) + 1) = ((i + 1 : Nat) : Int) := by rw [IntWalk.i64_in _ (by omega)]; omega
          have M3 := HM.out.on T.out.1.2
          have p1 := M3.top i hlti
          have hrow := T.out.1.1.row j (by omega)
          have hcell := hrow.cell i hlti
          have LT : Hid (W3.cell? ⟨cb, j, none⟩ = some (.slice (some ⟨G j, 0, none⟩) R (C j)) ∧ cb < W3.heap.size) := ⟨T.out.1.1.top j (by omega), T.out.1.1.hb⟩
          have LZ : Hid (W3.cell? ⟨Ga i, Oa i + j, none⟩ = some (.int .i64 (Z i j)) ∧ Ga i < W3.heap.size) := ⟨M3.cell i j hlti hlt, M3.row i hlti⟩
          have LB : Hid (W3.cell? ⟨G j, i, none⟩ = some (.int .i64 (trF Z j i j i)) ∧ G j < W3.heap.size) := ⟨hcell, hrow.hb⟩
          have LF : Hid (W3.frozen? ⟨G j, i, none⟩ = false) := hrow.fz i hlti
          have HL : Hid (w.heap.size ≤ G j) := by have := hrow.lo; have := HA.out; show w.heap.size ≤ G j; omega
          obtain ⟨vz, hvz⟩ : ∃ x, Z i j = x := ⟨_, rfl⟩
          rw [hvz] at LZ
          have HVZ := Lib.hid hvz
          clear M3 hrow hcell hvz
          go_upto_region 9 with fail
          clear p1
          refine wp_region_each (fun L A W => ∃ (v : Nat → Value), A = ⟨#[_, _, _, _, _, _, _, _, _, _, _, _, _, _, _, _, _, _, _, _, _, _, _, _, _, _, _, _, _, _, v 30, v 31, v 32, v 33, v 34, v 35, v 36, v 37, v 38, v 39, _, _, _], []⟩ ∧ TrnR cb R n i j G C Ga Oa Ka vz W3 L v W) (by kernel_rfl) (by kernel_rfl) ⟨fun jz => if jz = 30 then u30 else if jz = 31 then u31 else if jz = 32 then u32 else if jz = 33 then u33 else if jz = 34 then u34 else if jz = 35 then u35 else if jz = 36 then u36 else if jz = 37 then u37 else if jz = 38 then u38 else if jz = 39 then u39 else undef, rfl, ⟨(fun _ => Below.drew (Below.refl _ _)), Had.none, Had.none, Had.none, Had.none, Had.none, Had.none, Had.none, Had.none, Had.none, Had.none, Had.none, Had.none, Had.none, Had.none, Had.none, Had.none, Had.none⟩⟩ (rs := [0, 1, 2, 3, 4, 5, 6, 7, 8, 9, 10]) (by kernel_rfl) ?_ ?_
          · refine EachOf.cons [] rfl (by kernel_rfl) ?_ ?_
            · rintro L A W ⟨v, rfl, hR⟩ hi hw K hK
              have hk : L 10 = false := hR.w10.not hi rfl
              go_simp
              refine hK.out _ _ ?_
              exact ⟨(fun jz => if jz = 30 then .slice (some ⟨cb, 0, none⟩) (n) (n) else v jz), rfl, ⟨(fun h => hR.st (upd_false h)), hR.s1.keep rfl, hR.w2.keepM rfl (fun h j hj => upd_on (h j hj)), hR.w3.keepM rfl (fun h j hj => upd_on (h j hj)), hR.w7.keepM rfl (fun h j hj => upd_on (h j hj)), hR.w8.keepM rfl (fun h j hj => upd_on (h j hj)), hR.w9.keepM rfl (fun h j hj => upd_on (h j hj)), hR.w10.keepM rfl (fun h j hj => upd_on (h j hj)), (fun _ => rfl), hR.f1.keep rfl, hR.f2.keep rfl, hR.f3.keep rfl, hR.f4.keep rfl, hR.f5.keep rfl, hR.f6.keep rfl, hR.f7.keep rfl, hR.f8.keep rfl, hR.f9.keep rfl⟩⟩
            refine EachOf.cons [] rfl (by kernel_rfl) ?_ ?_
            · rintro L A W ⟨v, rfl, hR⟩ hi hw K hK
              have hk : L 10 = false := hR.w10.not hi rfl
              go_simp
              refine hK.out _ _ ?_
              exact ⟨(fun jz => if jz = 31 then .int .i64 (j : Int) else v jz), rfl, ⟨(fun h => hR.st (upd_false h)), hR.s1.keep rfl, hR.w2.keepM rfl (fun h j hj => upd_on (h j hj)), hR.w3.keepM rfl (fun h j hj => upd_on (h j hj)), hR.w7.keepM rfl (fun h j hj => upd_on (h j hj)), hR.w8.keepM rfl (fun h j hj => upd_on (h j hj)), hR.w9.keepM rfl (fun h j hj => upd_on (h j hj)), hR.w10.keepM rfl (fun h j hj => upd_on (h j hj)), hR.f0.keep rfl, (fun _ => rfl), hR.f2.keep rfl, hR.f3.keep rfl, hR.f4.keep rfl, hR.f5.keep rfl, hR.f6.keep rfl, hR.f7.keep rfl, hR.f8.keep rfl, hR.f9.keep rfl⟩⟩
            refine EachOf.cons [0, 1] rfl (by kernel_rfl) ?_ ?_
            · rintro L A W ⟨v, rfl, hR⟩ hi hw K hK
              have hk : L 10 = false := hR.w10.not hi rfl
              have e0 := hR.f0 (hw 0 (by simp))
              have e1 := hR.f1 (hw 1 (by simp))
              simp only [e0, e1]
              clear e0 e1
              go_simp
              refine hK.out _ _ ?_
              exact ⟨(fun jz => if jz = 30 then .slice (some ⟨cb, 0, none⟩) (n) (n) else if jz = 31 then .int .i64 (j : Int) else if jz = 32 then .pointer (some ⟨cb, j, none⟩) else v jz), rfl, ⟨(fun h => hR.st (upd_false h)), hR.s1.keep rfl, (fun _ j hj => upd_on (hw j hj)), hR.w3.keepM rfl (fun h j hj => upd_on (h j hj)), hR.w7.keepM rfl (fun h j hj => upd_on (h j hj)), hR.w8.keepM rfl (fun h j hj => upd_on (h j hj)), hR.w9.keepM rfl (fun h j hj => upd_on (h j hj)), hR.w10.keepM rfl (fun h j hj => upd_on (h j hj)), (fun _ => rfl), (fun _ => rfl), (fun _ => rfl), hR.f3.keep rfl, hR.f4.keep rfl, hR.f5.keep rfl, hR.f6.keep rfl, hR.f7.keep rfl, hR.f8.keep rfl, hR.f9.keep rfl⟩⟩
            refine EachOf.cons [2] rfl (by kernel_rfl) ?_ ?_
            · rintro L A W ⟨v, rfl, hR⟩ hi hw K hK
              have hk : L 10 = false := hR.w10.not hi rfl
              have e2 := hR.f2 (hw 2 (by simp))
              simp only [e2]
              clear e2
              have q0 := ((hR.st hk).cell (p := ⟨cb, j, none⟩) LT.out.2).trans LT.out.1
              go_simp
              refine hK.out _ _ ?_
              exact ⟨(fun jz => if jz = 32 then .pointer (some ⟨cb, j, none⟩) else if jz = 33 then .slice (some ⟨G j, 0, none⟩) (R) (C j) else v jz), rfl, ⟨(fun h => hR.st (upd_false h)), hR.s1.keep rfl, hR.w2.keepM rfl (fun h j hj => upd_on (h j hj)), (fun _ j hj => upd_on (hw j hj)), hR.w7.keepM rfl (fun h j hj => upd_on (h j hj)), hR.w8.keepM rfl (fun h j hj => upd_on (h j hj)), hR.w9.keepM rfl (fun h j hj => upd_on (h j hj)), hR.w10.keepM rfl (fun h j hj => upd_on (h j hj)), hR.f0.keep rfl, hR.f1.keep rfl, (fun _ => rfl), (fun _ => rfl), hR.f4.keep rfl, hR.f5.keep rfl, hR.f6.keep rfl, hR.f7.keep rfl, hR.f8.keep rfl, hR.f9.keep rfl⟩⟩
            refine EachOf.cons [] rfl (by kernel_rfl) ?_ ?_
            · rintro L A W ⟨v, rfl, hR⟩ hi hw K hK
              have hk : L 10 = false := hR.w10.not hi rfl
              go_simp
              refine hK.out _ _ ?_
              exact ⟨(fun jz => if jz = 34 then .int .i64 (i : Int) else v jz), rfl, ⟨(fun h => hR.st (upd_false h)), hR.s1.keep rfl, hR.w2.keepM rfl (fun h j hj => upd_on (h j hj)), hR.w3.keepM rfl (fun h j hj => upd_on (h j hj)), hR.w7.keepM rfl (fun h j hj => upd_on (h j hj)), hR.w8.keepM rfl (fun h j hj => upd_on (h j hj)), hR.w9.keepM rfl (fun h j hj => upd_on (h j hj)), hR.w10.keepM rfl (fun h j hj => upd_on (h j hj)), hR.f0.keep rfl, hR.f1.keep rfl, hR.f2.keep rfl, hR.f3.keep rfl, (fun _ => rfl), hR.f5.keep rfl, hR.f6.keep rfl, hR.f7.keep rfl, hR.f8.keep rfl, hR.f9.keep rfl⟩⟩
            refine EachOf.cons [] rfl (by kernel_rfl) ?_ ?_
            · rintro L A W ⟨v, rfl, hR⟩ hi hw K hK
              have hk : L 10 = false := hR.w10.not hi rfl
              go_simp
              refine hK.out _ _ ?_
              exact ⟨(fun jz => if jz = 35 then .slice (some ⟨Ga i, Oa i, none⟩) (n) (Ka i) else v jz), rfl, ⟨(fun h => hR.st (upd_false h)), hR.s1.keep rfl, hR.w2.keepM rfl (fun h j hj => upd_on (h j hj)), hR.w3.keepM rfl (fun h j hj => upd_on (h j hj)), hR.w7.keepM rfl (fun h j hj => upd_on (h j hj)), hR.w8.keepM rfl (fun h j hj => upd_on (h j hj)), hR.w9.keepM rfl (fun h j hj => upd_on (h j hj)), hR.w10.keepM rfl (fun h j hj => upd_on (h j hj)), hR.f0.keep rfl, hR.f1.keep rfl, hR.f2.keep rfl, hR.f3.keep rfl, hR.f4.keep rfl, (fun _ => rfl), hR.f6.keep rfl, hR.f7.keep rfl, hR.f8.keep rfl, hR.f9.keep rfl⟩⟩
            refine EachOf.cons [] rfl (by kernel_rfl) ?_ ?_
            · rintro L A W ⟨v, rfl, hR⟩ hi hw K hK
              have hk : L 10 = false := hR.w10.not hi rfl
              go_simp
              refine hK.out _ _ ?_
              exact ⟨(fun jz => if jz = 36 then .int .i64 (j : Int) else v jz), rfl, ⟨(fun h => hR.st (upd_false h)), hR.s1.keep rfl, hR.w2.keepM rfl (fun h j hj => upd_on (h j hj)), hR.w3.keepM rfl (fun h j hj => upd_on (h j hj)), hR.w7.keepM rfl (fun h j hj => upd_on (h j hj)), hR.w8.keepM rfl (fun h j hj => upd_on (h j hj)), hR.w9.keepM rfl (fun h j hj => upd_on (h j hj)), hR.w10.keepM rfl (fun h j hj => upd_on (h j hj)), hR.f0.keep rfl, hR.f1.keep rfl, hR.f2.keep rfl, hR.f3.keep rfl, hR.f4.keep rfl, hR.f5.keep rfl, (fun _ => rfl), hR.f7.keep rfl, hR.f8.keep rfl, hR.f9.keep rfl⟩⟩
            refine EachOf.cons [5, 6] rfl (by kernel_rfl) ?_ ?_
            · rintro L A W ⟨v, rfl, hR⟩ hi hw K hK
              have hk : L 10 = false := hR.w10.not hi rfl
              have e5 := hR.f5 (hw 5 (by simp))
              have e6 := hR.f6 (hw 6 (by simp))
              simp only [e5, e6]
              clear e5 e6
              go_simp
              refine hK.out _ _ ?_
              exact ⟨(fun jz => if jz = 35 then .slice (some ⟨Ga i, Oa i, none⟩) (n) (Ka i) else if jz = 36 then .int .i64 (j : Int) else if jz = 37 then .pointer (some ⟨Ga i, Oa i + j, none⟩) else v jz), rfl, ⟨(fun h => hR.st (upd_false h)), hR.s1.keep rfl, hR.w2.keepM rfl (fun h j hj => upd_on (h j hj)), hR.w3.keepM rfl (fun h j hj => upd_on (h j hj)), (fun _ j hj => upd_on (hw j hj)), hR.w8.keepM rfl (fun h j hj => upd_on (h j hj)), hR.w9.keepM rfl (fun h j hj => upd_on (h j hj)), hR.w10.keepM rfl (fun h j hj => upd_on (h j hj)), hR.f0.keep rfl, hR.f1.keep rfl, hR.f2.keep rfl, hR.f3.keep rfl, hR.f4.keep rfl, (fun _ => rfl), (fun _ => rfl), (fun _ => rfl), hR.f8.keep rfl, hR.f9.keep rfl⟩⟩
            refine EachOf.cons [7] rfl (by kernel_rfl) ?_ ?_
            · rintro L A W ⟨v, rfl, hR⟩ hi hw K hK
              have hk : L 10 = false := hR.w10.not hi rfl
              have e7 := hR.f7 (hw 7 (by simp))
              simp only [e7]
              clear e7
              have q0 := ((hR.st hk).cell (p := ⟨Ga i, Oa i + j, none⟩) LZ.out.2).trans LZ.out.1
              go_simp
              refine hK.out _ _ ?_
              exact ⟨(fun jz => if jz = 37 then .pointer (some ⟨Ga i, Oa i + j, none⟩) else if jz = 38 then .int .i64 vz else v jz), rfl, ⟨(fun h => hR.st (upd_false h)), hR.s1.keep rfl, hR.w2.keepM rfl (fun h j hj => upd_on (h j hj)), hR.w3.keepM rfl (fun h j hj => upd_on (h j hj)), hR.w7.keepM rfl (fun h j hj => upd_on (h j hj)), (fun _ j hj => upd_on (hw j hj)), hR.w9.keepM rfl (fun h j hj => upd_on (h j hj)), hR.w10.keepM rfl (fun h j hj => upd_on (h j hj)), hR.f0.keep rfl, hR.f1.keep rfl, hR.f2.keep rfl, hR.f3.keep rfl, hR.f4.keep rfl, hR.f5.keep rfl, hR.f6.keep rfl, (fun _ => rfl), (fun _ => rfl), hR.f9.keep rfl⟩⟩
            refine EachOf.cons [3, 4] rfl (by kernel_rfl) ?_ ?_
            · rintro L A W ⟨v, rfl, hR⟩ hi hw K hK
              have hk : L 10 = false := hR.w10.not hi rfl
              have e3 := hR.f3 (hw 3 (by simp))
              have e4 := hR.f4 (hw 4 (by simp))
              simp only [e3, e4]
              clear e3 e4
              go_simp
              refine hK.out _ _ ?_
              exact ⟨(fun jz => if jz = 33 then .slice (some ⟨G j, 0, none⟩) (R) (C j) else if jz = 34 then .int .i64 (i : Int) else if jz = 39 then .pointer (some ⟨G j, i, none⟩) else v jz), rfl, ⟨(fun h => hR.st (upd_false h)), hR.s1.keep rfl, hR.w2.keepM rfl (fun h j hj => upd_on (h j hj)), hR.w3.keepM rfl (fun h j hj => upd_on (h j hj)), hR.w7.keepM rfl (fun h j hj => upd_on (h j hj)), hR.w8.keepM rfl (fun h j hj => upd_on (h j hj)), (fun _ j hj => upd_on (hw j hj)), hR.w10.keepM rfl (fun h j hj => upd_on (h j hj)), hR.f0.keep rfl, hR.f1.keep rfl, hR.f2.keep rfl, (fun _ => rfl), (fun _ => rfl), hR.f5.keep rfl, hR.f6.keep rfl, hR.f7.keep rfl, hR.f8.keep rfl, (fun _ => rfl)⟩⟩
            refine EachOf.cons [0, 1, 2, 3, 4, 5, 6, 7, 8, 9] rfl (by kernel_rfl) ?_ ?_
            · rintro L A W ⟨v, rfl, hR⟩ hi hw K hK
              have e9 := hR.f9 (hw 9 (by simp))
              have e8 := hR.f8 (hw 8 (by simp))
              simp only [e9, e8]
              clear e9 e8
              have q1 := (hR.st hi).cell (p := ⟨G j, i, none⟩) LB.out.2
              rw [LB.out.1] at q1
              have q2 := (hR.st hi).frozen (p := ⟨G j, i, none⟩) LB.out.2
              rw [LF.out] at q2
              go_simp
              refine hK.out _ _ ?_
              exact ⟨(fun jz => if jz = 39 then .pointer (some ⟨G j, i, none⟩) else if jz = 38 then .int .i64 vz else v jz), rfl, ⟨(fun h => by simp [upd_self] at h), (fun _ => ⟨W, hR.st hi, rfl⟩), hR.w2.keepM rfl (fun h j hj => upd_on (h j hj)), hR.w3.keepM rfl (fun h j hj => upd_on (h j hj)), hR.w7.keepM rfl (fun h j hj => upd_on (h j hj)), hR.w8.keepM rfl (fun h j hj => upd_on (h j hj)), hR.w9.keepM rfl (fun h j hj => upd_on (h j hj)), (fun _ j hj => upd_on (hw j hj)), hR.f0.keep rfl, hR.f1.keep rfl, hR.f2.keep rfl, hR.f3.keep rfl, hR.f4.keep rfl, hR.f5.keep rfl, hR.f6.keep rfl, hR.f7.keep rfl, (fun _ => rfl), (fun _ => rfl)⟩⟩
            exact EachOf.nil
          rintro L A W ⟨v, rfl, hR⟩ hL
          obtain ⟨W4, hb4, hW⟩ := hR.s1 (hL 10 (by simp))
          have T1 := (T.out.1.1.on hb4).setc (F2 := trF Z j (i + 1)) j i vz (by omega) hlti T.out.2 (by unfold trF; rw [if_pos rfl, if_pos (by omega)]; exact HVZ.out) (fun l c hl hc hne => by
            unfold trF
            by_cases e : l = j
            · rw [if_pos e, if_pos e]
              by_cases g : c < i
              · rw [if_pos g, if_pos (by omega)]
              · rw [if_neg g, if_neg (fun q => hne ⟨e, by omega⟩)]
            · rw [if_neg e, if_neg e])
          rw [← hW] at T1
          have T2 : Below w.heap.size w W := by
            rw [hW]
            exact (below_on T.out.1.2 hb4).setCell HL.out _
          have T3 := Lib.hid (And.intro (And.intro T1 T2) T.out.2)
          clear T1 T2 hW hb4 W4 hR hL LT LZ LB LF HL T
          go_wp2_with fail
          go_roundg (R - (i + 1))
          case measure => omega
          case rel => exact ⟨i + 1, rfl, rfl, by omega, T3⟩
        · have e : i = R := by omega
          subst e
          have T3 : Hid (Ext W3 cb n i (j + 1) G C (fun l k => Z k l) ∧ Below w.heap.size w W3) := ⟨T.out.1.1.congr fun l c hl hc => by
            unfold trF
            split <;> first | rfl | rw [if_pos hc], T.out.1.2⟩
          clear T
          go_wp2_with fail
          go_roundg (n - (j + 1))
          case measure => omega
          case rel => exact ⟨j + 1, rfl, rfl, by omega, _, _, T3⟩
    · have e : j = n := by omega
      subst e
      go_wp2_with fail
      go_ret
      exact ⟨cb, G0, C0, rfl, S.out.2, S.out.1.mat⟩

section
variable (ma : Option Addr) (R mc : Nat) (Ra : Nat → Option Addr) (Ln Ka : Nat → Nat) (Z : Nat → Nat → Int) (w : World)
theorem Indep_bad (hM : AMat w ma R Ra Ln Ka Z) (hR : R ≤ 9223372036854775807) (hv : ¬ vMP R Ln Z) :
    Calls Try.prog 13 #[.slice ma R mc] w fun e w' => e = .returned (.tuple #[.slice none 0 0, .int .i64 1]) ∧ Below w.heap.size w w' := by
  have CV := Lib.hid (lValid_any ma R mc Ra Ln Ka Z w hM hR)
  rw [vM_no hv] at CV
  clear hM hv
  go_enter Try.func13, Try.ntmps13
  go_wp2_with fail
  (with_reducible refine ((CV.out).mono ?_))
  rintro e w1 ⟨rfl, hb⟩
  go_wp2_with fail
  go_returns
  exact ⟨rfl, hb⟩

set_option maxRecDepth 100000 in
theorem Indep_ok (n : Nat) (hn : Ln 0 = n) (hM : AMat w ma R Ra Ln Ka Z) (hv : vMP R Ln Z) :
    Calls Try.prog 13 #[.slice ma R mc] w fun e w' => Below w.heap.size w w' ∧ ∃ k p E D pv, FinE n R (fun l i => Z i l) k p E D ∧ e = .returned (.tuple #[pv, .int .i64 0]) ∧ w'.ownsRow w.heap.size 3 1 pv k ((List.range k).map fun l => Value.int .i64 (p l)) := by
  have CV := Lib.hid (lValid_any ma R mc Ra Ln Ka Z w hM (by have := hv.2.1; omega))
  rw [vM_true.2 hv] at CV
  obtain ⟨mb, mo, hma, hMt⟩ := hM.mat hv
  rw [hn] at hMt
  have hR0 : 0 < R := hv.1
  have hR6 : R ≤ 6 := hv.2.1
  have hn0 : 0 < n := by have := hv.2.2.1; omega
  have hn12 : n ≤ 12 := by have := hv.2.2.2.1; omega
  have HS : Hid (∀ i j, i < n → j < R → - cB R j ≤ Z j i ∧ Z j i ≤ cB R j) := fun i j hi hj => by
    have h1 := hv.2.2.2.2 j hj
    have h2 := h1.2 i (by rw [h1.1, hn]; exact hi)
    unfold cB
    rw [if_neg (by omega)]
    exact h2
  have HM := Lib.hid hMt
  clear hM hv hMt hn
  subst hma
  go_enter Try.func13, Try.ntmps13
  go_wp2_with fail
  (with_reducible refine ((CV.out).mono ?_))
  rintro e w1 ⟨rfl, hb⟩
  clear CV
  have HB1 := Lib.hid hb
  have CT := Lib.hid (transposed_any mb mo mc R n _ _ _ Z w1 (HM.out.on HB1.out) hR0 (by omega) hn0 hn12)
  clear hb
  go_wp2_with fail
  (with_reducible refine ((CT.out).mono ?_))
  rintro e w2 ⟨cb, G, C, rfl, hb2, hM2⟩
  have HB2 := Lib.hid (below_on HB1.out hb2)
  have CE := Lib.hid (eliminate_any cb 0 n n R R G (fun _ => 0) C (fun l i => Z i l) w2 hM2 hn0 (by omega) hR0 (by omega) (.inr hR6) HS.out)
  clear CT hb2 hM2 HB1
  go_wp2_with fail
  (with_reducible refine ((CE.out).mono ?_))
  rintro e w3 ⟨hb3, b, Cb, G3, C3, U, E, pv, k, p, D, rfl, hCb, hG, hO, hI⟩
  have HI := Lib.hid hI.fin
  have HB := Lib.hid (below_on HB2.out hb3)
  obtain ⟨pa, pc, hpv⟩ := own_form hO
  have HO := Lib.hid (own_base hO HB2.out.size)
  subst hpv
  clear CE hb3 hI hG hO HB2
  have hfl : ∀ w : World, (Instr.field 68 (.agg #[.slice (some ⟨b, 0, none⟩) n Cb, .slice pa k pc, .int .i64 D]) 1).run Try.prog w = .ok (.slice pa k pc) w := fun _ => by kernel_rfl
  go_wp2_with fail
  go_returns
  exact ⟨HB.out, k, p, E, D, _, HI.out, rfl, HO.out⟩
end

end Go.Proofs.Ytjggnmbdgagkoaa
