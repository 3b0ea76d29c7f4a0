/- Layer 10's reference: right ropes. -/
import Derived.Test.YtcghjjfpjiacfaaDoorKR2
namespace Go.Proofs.YtcghjjfpjiacfaaDoor
open Go.ChangeShapes Go.WideShapes Go.ChangeAt Go.RowKit Go.Joins Go.Deep Go.Shelf
set_option linter.unusedVariables false

structure KraR (ba ra : Option Addr) (nb bc nr rc x2 x3 hb ho n hc i : Nat) (hs : Nat → Hld) (t nt : Bool) (Wc : World) (L : Nat → Bool) (v : Nat → Value) (W : World) : Prop where
  st : Below Wc.heap.size Wc W
  w2 : Had L 2 (∀ j ∈ [1], L j = true)
  w4 : Had L 4 (∀ j ∈ [2, 3], L j = true)
  w5 : Had L 5 (∀ j ∈ [4], L j = true)
  w7 : Had L 7 (∀ j ∈ [6], L j = true)
  w8 : Had L 8 (∀ j ∈ [7], L j = true)
  w9 : Had L 9 (∀ j ∈ [8], L j = true)
  w10 : Had L 10 (∀ j ∈ [8], L j = true)
  w11 : Had L 11 (∀ j ∈ [8, 10], L j = true)
  w12 : Had L 12 (∀ j ∈ [8, 11], L j = true)
  w13 : Had L 13 (∀ j ∈ [8, 12], L j = true)
  w14 : Had L 14 (∀ j ∈ [8, 9, 13], L j = true)
  w15 : Had L 15 (∀ j ∈ [8, 14], L j = true)
  w16 : Had L 16 (∀ j ∈ [0, 5, 15], L j = true)
  w17 : Had L 17 (∀ j ∈ [16], L j = true)
  f0 : Had L 0 (v 23 = .agg #[.slice ba nb bc, .slice ra nr rc])
  f1 : Had L 1 (v 24 = .pointer (some ⟨x3, 1, none⟩))
  f2 : Had L 2 (v 25 = .slice (some ⟨hb, ho, none⟩) (n) (hc))
  f3 : Had L 3 (v 26 = .int .i64 (i : Int))
  f4 : Had L 4 (v 27 = .pointer (some ⟨hb, ho + i * 4, none⟩))
  f5 : Had L 5 (v 28 = .agg #[.string (hs i).blk, .int .i64 (hs i).pulls, .int .i64 (hs i).num, .int .i64 (hs i).den])
  f6 : Had L 6 (v 29 = .int .i64 (i : Int))
  f7 : Had L 7 (v 30 = .bool true)
  f8 : Had L 8 (v 31 = .bool true)
  f9 : Had L 9 (v 32 = undef)
  f10 : Had L 10 (v 33 = undef)
  f11 : Had L 11 (v 34 = undef)
  f12 : Had L 12 (v 35 = undef)
  f13 : Had L 13 (v 36 = undef)
  f14 : Had L 14 (v 37 = undef)
  f15 : Had L 15 (v 38 = .bool true)
  f16 : Had L 16 (v 39 = .bool t)
  f17 : Had L 17 (v 40 = .bool nt)
structure KrbR (ba ra : Option Addr) (nb bc nr rc x2 x3 hb ho n hc i : Nat) (hs : Nat → Hld) (ee t nt : Bool) (Wc : World) (L : Nat → Bool) (v : Nat → Value) (W : World) : Prop where
  st : Below Wc.heap.size Wc W
  w2 : Had L 2 (∀ j ∈ [1], L j = true)
  w4 : Had L 4 (∀ j ∈ [2, 3], L j = true)
  w5 : Had L 5 (∀ j ∈ [4], L j = true)
  w7 : Had L 7 (∀ j ∈ [6], L j = true)
  w8 : Had L 8 (∀ j ∈ [7], L j = true)
  w9 : Had L 9 (∀ j ∈ [8], L j = true)
  w10 : Had L 10 (∀ j ∈ [8], L j = true)
  w11 : Had L 11 (∀ j ∈ [8, 10], L j = true)
  w12 : Had L 12 (∀ j ∈ [8, 11], L j = true)
  w13 : Had L 13 (∀ j ∈ [8, 12], L j = true)
  w14 : Had L 14 (∀ j ∈ [8, 9, 13], L j = true)
  w15 : Had L 15 (∀ j ∈ [8, 14], L j = true)
  w16 : Had L 16 (∀ j ∈ [0, 5, 15], L j = true)
  w17 : Had L 17 (∀ j ∈ [16], L j = true)
  f0 : Had L 0 (v 23 = .agg #[.slice ba nb bc, .slice ra nr rc])
  f1 : Had L 1 (v 24 = .pointer (some ⟨x3, 1, none⟩))
  f2 : Had L 2 (v 25 = .slice (some ⟨hb, ho, none⟩) (n) (hc))
  f3 : Had L 3 (v 26 = .int .i64 (i : Int))
  f4 : Had L 4 (v 27 = .pointer (some ⟨hb, ho + i * 4, none⟩))
  f5 : Had L 5 (v 28 = .agg #[.string (hs i).blk, .int .i64 (hs i).pulls, .int .i64 (hs i).num, .int .i64 (hs i).den])
  f6 : Had L 6 (v 29 = .int .i64 (i : Int))
  f7 : Had L 7 (v 30 = .bool false)
  f8 : Had L 8 (v 31 = .bool false)
  f9 : Had L 9 (v 32 = .int .i64 (i : Int))
  f10 : Had L 10 (v 33 = .pointer (some ⟨x3, 1, none⟩))
  f11 : Had L 11 (v 34 = .slice (some ⟨hb, ho, none⟩) (n) (hc))
  f12 : Had L 12 (v 35 = .int .i64 (n : Int))
  f13 : Had L 13 (v 36 = .int .i64 ((n - 1 : Nat) : Int))
  f14 : Had L 14 (v 37 = .bool ee)
  f15 : Had L 15 (v 38 = .bool ee)
  f16 : Had L 16 (v 39 = .bool t)
  f17 : Had L 17 (v 40 = .bool nt)
set_option maxRecDepth 100000 in
set_option maxHeartbeats 16000000 in
theorem rrope_any (ba : Option Addr) (nb bc : Nat) (bn : Nat → ByteArray) (bw : Nat → Int) (ra : Option Addr) (nr rc : Nat) (r : Rop) (nm : ByteArray) (ha : Option Addr) (n hc : Nat) (hs : Nat → Hld) (hd : Bool) (w : World) (hr : r = ⟨nm, ha, n, hc, hs, hd⟩) (hlb : BlkR w ba nb bn bw) (hnb : nb ≤ 1000) (hl : HolR w ha n hs) (hn : n ≤ 100) (hg : ∀ i, i < n → HldRg (hs i)) (v : Bool) (hv : v = true ↔ RopOk (knB bn nb) r) :
    Calls Tryd.prog 70 #[.agg #[.slice ba nb bc, .slice ra nr rc], .agg #[.string nm, .slice ha n hc, .bool hd]] w fun e w' => e = .returned (.bool v) ∧ Below w.heap.size w w' := by
  obtain ⟨w1, hw1⟩ : ∃ W, W = (w.alloc (Obj.cells #[Value.slice ba nb bc, .slice ra nr rc] 36)).alloc (Obj.cells #[Value.string nm, .slice ha n hc, .bool hd] 58) := ⟨_, rfl⟩
  obtain ⟨x2, hx2⟩ : ∃ x, x = w.heap.size := ⟨_, rfl⟩
  obtain ⟨x3, hx3⟩ : ∃ x, x = w.heap.size + 1 := ⟨_, rfl⟩
  have hB0 : Below (w.alloc (Obj.cells #[Value.slice ba nb bc, .slice ra nr rc] 36)).heap.size (w.alloc (Obj.cells #[Value.slice ba nb bc, .slice ra nr rc] 36)) w1 := by rw [hw1]; exact (Below.refl _ _).alloc (Nat.le_refl _) _
  have hS : C2 w1 x2 (.slice ba nb bc) (.slice ra nr rc) := by rw [hx2]; exact (C2.new w _ _ _).on hB0
  have hC : C3 w1 x3 (.string nm) (.slice ha n hc) (.bool hd) := by
    rw [hw1, hx3, show w.heap.size + 1 = (w.alloc (Obj.cells #[Value.slice ba nb bc, .slice ra nr rc] 36)).heap.size by simp]
    exact C3.new _ _ _ _ _
  have hB : Below w.heap.size w w1 := below_on ((Below.refl _ _).alloc (Nat.le_refl _) _) hB0
  have HB := Lib.hid hB
  have HLB := Lib.hid (hlb.on hB)
  have HL := Lib.hid (hl.on hB)
  have HX := Lib.hid hg
  have HS := Lib.hid hS
  have HC := Lib.hid hC
  have HD : Hid (x2 = w.heap.size ∧ x3 = w.heap.size + 1 ∧ w1 = (w.alloc (Obj.cells #[Value.slice ba nb bc, .slice ra nr rc] 36)).alloc (Obj.cells #[Value.string nm, .slice ha n hc, .bool hd] 58)) := ⟨hx2, hx3, hw1⟩
  have hok : RopOk (knB bn nb) r ↔ (2 ≤ n ∧ n ≤ 10) ∧ (∀ i, i < n → hldB (knB bn nb (hs i).blk) (hs i) (decide (i = 0 ∨ i + 1 = n)) = true) ∧ (hd = true → (hs (n - 1)).blk = ByteArray.empty) := by
    rw [hr]
    exact ⟨fun h => ⟨⟨h.l2, h.l10⟩, h.hs, h.hl⟩, fun h => ⟨h.1.1, h.1.2, h.2.1, h.2.2⟩⟩
  rw [hok] at hv
  have HV := Lib.hid hv
  have c1 := hC.c1
  clear hok hv hr hlb hl hg hx2 hx3 hw1 hB0 hS hC hB
  by_cases h2 : 2 ≤ n ∧ n ≤ 10
  · have g1 : ¬ (n : Int) < 2 := by omega
    have g2 : ¬ 10 < (n : Int) := by omega
    have wl : IntKind.i64.wrap ((n : Int) - 1) = ((n - 1 : Nat) : Int) := by rw [IntWalk.i64_in _ (by omega)]; omega
    have HV2 : Hid (v = true ↔ (∀ i, i < n → hldB (knB bn nb (hs i).blk) (hs i) (decide (i = 0 ∨ i + 1 = n)) = true) ∧ (hd = true → (hs (n - 1)).blk = ByteArray.empty)) := ⟨fun h => (HV.out.1 h).2, fun h => HV.out.2 ⟨h2, h⟩⟩
    obtain ⟨hb, ho, rfl, hbk, hck⟩ := HL.out (by omega)
    have HT := Lib.hid (And.intro hbk hck)
    have S0 : Hid (Below w1.heap.size w1 w1 ∧ ∀ j, j < 0 → hldB (knB bn nb (hs j).blk) (hs j) (decide (j = 0 ∨ j + 1 = n)) = true) := ⟨Below.refl _ _, fun j hj => by omega⟩
    clear hbk hck HL HV
    go_enter Tryd.func70, Tryd.ntmps70
    go_upto_region 1 with fail
    rw [← HD.out.2.2, ← HD.out.2.1, ← HD.out.1]
    clear HD
    go_wp2_with fail
    clear c1 g1 g2
    go_loopg [5] n (fun mm s5 wx => ∃ i : Nat, s5 = .int .i64 (i : Int) ∧ mm = n - i ∧ i ≤ n ∧ Hid (Below w1.heap.size w1 wx ∧ ∀ j, j < i → hldB (knB bn nb (hs j).blk) (hs j) (decide (j = 0 ∨ j + 1 = n)) = true))
    case atStart => exact ⟨0, rfl, rfl, Nat.zero_le _, S0⟩
    case round =>
      clear S0
      obtain ⟨i, rfl, rfl, hi, S⟩ := hrel
      rename World => W1
      have c1 := (S.out.1.cell (p := ⟨x3, 1, none⟩) HC.out.lt).trans HC.out.c1
      by_cases hlt : i < n
      · have lk : (i : Int) < (n : Int) := by omega
        have wk : IntKind.i64.wrap ((i : Int) + 1) = ((i + 1 : Nat) : Int) := by rw [IntWalk.i64_in _ (by omega)]; omega
        have p1 := (S.out.1.cell (p := ⟨hb, ho + i * 4, none⟩) HT.out.1).trans (HT.out.2 i hlt).1
        have p2 := (S.out.1.cell (p := ⟨hb, ho + i * 4 + 1, none⟩) HT.out.1).trans (HT.out.2 i hlt).2.1
        have p3 := (S.out.1.cell (p := ⟨hb, ho + i * 4 + 2, none⟩) HT.out.1).trans (HT.out.2 i hlt).2.2.1
        have p4 := (S.out.1.cell (p := ⟨hb, ho + i * 4 + 3, none⟩) HT.out.1).trans (HT.out.2 i hlt).2.2.2
        have LH0 := Lib.hid (And.intro p1 (Nat.lt_of_lt_of_le HT.out.1 S.out.1.size))
        have LH1 := Lib.hid (And.intro p2 (Nat.lt_of_lt_of_le HT.out.1 S.out.1.size))
        have LH2 := Lib.hid (And.intro p3 (Nat.lt_of_lt_of_le HT.out.1 S.out.1.size))
        have LH3 := Lib.hid (And.intro p4 (Nat.lt_of_lt_of_le HT.out.1 S.out.1.size))
        have LS0 := Lib.hid (And.intro ((S.out.1.cell (p := ⟨x2, 0, none⟩) HS.out.lt).trans HS.out.c0) (Nat.lt_of_lt_of_le HS.out.lt S.out.1.size))
        have LS1 := Lib.hid (And.intro ((S.out.1.cell (p := ⟨x2, 1, none⟩) HS.out.lt).trans HS.out.c1) (Nat.lt_of_lt_of_le HS.out.lt S.out.1.size))
        have LR := Lib.hid (And.intro c1 (Nat.lt_of_lt_of_le HC.out.lt S.out.1.size))
        have hrg := HX.out i hlt
        clear p1 p2 p3 p4
        have hn1 : hldB (knB bn nb (hs i).blk) (hs i) (decide (i = 0 ∨ i + 1 = n)) = false → v = false := fun h => by
          cases e : v
          · rfl
          · have := (HV2.out.1 e).1 i hlt
            rw [h] at this
            cases this
        have hn2 : hldB (knB bn nb (hs i).blk) (hs i) (decide (i = 0 ∨ i + 1 = n)) = true → ∀ j, j < i + 1 → hldB (knB bn nb (hs j).blk) (hs j) (decide (j = 0 ∨ j + 1 = n)) = true := fun h j hj => by
          by_cases e : j = i
          · rw [e]; exact h
          · exact S.out.2 j (by omega)
        obtain ⟨ee, hee⟩ : ∃ b, decide (i = 0 ∨ i + 1 = n) = b := ⟨_, rfl⟩
        obtain ⟨t, ht⟩ : ∃ t, hldB (knB bn nb (hs i).blk) (hs i) ee = t := ⟨_, rfl⟩
        obtain ⟨nt, hnt⟩ : ∃ z, (!t) = z := ⟨_, rfl⟩
        rw [hee, ht] at hn1 hn2
        have CR : Hid (∀ W, Below W1.heap.size W1 W → Calls Tryd.prog 102 #[.agg #[.slice ba nb bc, .slice ra nr rc], .agg #[.string (hs i).blk, .int .i64 (hs i).pulls, .int .i64 (hs i).num, .int .i64 (hs i).den], .bool ee] W fun e w' => e = .returned (.bool t) ∧ Below W.heap.size W w') := fun W hW =>
          rhold_any ba nb bc bn bw ra nr rc (hs i).blk (hs i).pulls (hs i).num (hs i).den ee W (HLB.out.on (below_on S.out.1 hW)) hnb hrg.n hrg.d t ht
        have HN := Lib.hid (And.intro hn1 hn2)
        have HNT := Lib.hid hnt
        clear hn1 hn2 hrg ht
        by_cases h0 : i = 0
        · have t1 : ((i : Int) == 0) = true := by simp; omega
          obtain rfl : ee = true := by rw [← hee]; simp [h0]
          have HZ := Lib.hid h0
          clear hee h0
          go_upto_region 6 with fail
          refine wp_region_each (fun L A W => ∃ (v : Nat → Value), A = ⟨#[_, _, _, _, _, _, _, _, _, _, _, _, _, _, _, _, _, _, _, _, _, _, _, v 23, v 24, v 25, v 26, v 27, v 28, v 29, v 30, v 31, v 32, v 33, v 34, v 35, v 36, v 37, v 38, v 39, v 40, _, _, _, _, _, _, _, _, _, _, _, _, _, _, _], []⟩ ∧ KraR ba ra nb bc nr rc x2 x3 hb ho n hc i hs t nt W1 L v W) (by kernel_rfl) (by kernel_rfl) ⟨fun jz => if jz = 23 then u23 else if jz = 24 then u24 else if jz = 25 then u25 else if jz = 26 then u26 else if jz = 27 then u27 else if jz = 28 then u28 else if jz = 29 then u29 else if jz = 30 then u30 else if jz = 31 then u31 else if jz = 32 then u32 else if jz = 33 then u33 else if jz = 34 then u34 else if jz = 35 then u35 else if jz = 36 then u36 else if jz = 37 then u37 else if jz = 38 then u38 else if jz = 39 then u39 else if jz = 40 then u40 else undef, rfl, ⟨Below.drew (Below.refl _ _), Had.none, Had.none, Had.none, Had.none, Had.none, Had.none, Had.none, Had.none, Had.none, Had.none, Had.none, Had.none, Had.none, Had.none, Had.none, Had.none, Had.none, Had.none, Had.none, Had.none, Had.none, Had.none, Had.none, Had.none, Had.none, Had.none, Had.none, Had.none, Had.none, Had.none, Had.none, Had.none⟩⟩ (rs := [0, 1, 2, 3, 4, 5, 6, 7, 8, 9, 10, 11, 12, 13, 14, 15, 16, 17]) (by kernel_rfl) ?_ ?_
          · refine EachOf.cons [] rfl (by kernel_rfl) ?_ ?_
            · rintro L A W ⟨v, rfl, hR⟩ hi hw K hK
              have q0 := (hR.st.cell (p := ⟨x2, 0, none⟩) LS0.out.2).trans LS0.out.1
              have q1 := (hR.st.cell (p := ⟨x2, 1, none⟩) LS1.out.2).trans LS1.out.1
              go_simp
              refine hK.out _ _ ?_
              exact ⟨(fun jz => if jz = 23 then .agg #[.slice ba nb bc, .slice ra nr rc] else v jz), rfl, ⟨hR.st, hR.w2.o, hR.w4.o, hR.w5.o, hR.w7.o, hR.w8.o, hR.w9.o, hR.w10.o, hR.w11.o, hR.w12.o, hR.w13.o, hR.w14.o, hR.w15.o, hR.w16.o, hR.w17.o, (fun _ => rfl), hR.f1.k, hR.f2.k, hR.f3.k, hR.f4.k, hR.f5.k, hR.f6.k, hR.f7.k, hR.f8.k, hR.f9.k, hR.f10.k, hR.f11.k, hR.f12.k, hR.f13.k, hR.f14.k, hR.f15.k, hR.f16.k, hR.f17.k⟩⟩
            refine EachOf.cons [] rfl (by kernel_rfl) ?_ ?_
            · rintro L A W ⟨v, rfl, hR⟩ hi hw K hK
              go_simp
              refine hK.out _ _ ?_
              exact ⟨(fun jz => if jz = 24 then .pointer (some ⟨x3, 1, none⟩) else v jz), rfl, ⟨hR.st, hR.w2.o, hR.w4.o, hR.w5.o, hR.w7.o, hR.w8.o, hR.w9.o, hR.w10.o, hR.w11.o, hR.w12.o, hR.w13.o, hR.w14.o, hR.w15.o, hR.w16.o, hR.w17.o, hR.f0.k, (fun _ => rfl), hR.f2.k, hR.f3.k, hR.f4.k, hR.f5.k, hR.f6.k, hR.f7.k, hR.f8.k, hR.f9.k, hR.f10.k, hR.f11.k, hR.f12.k, hR.f13.k, hR.f14.k, hR.f15.k, hR.f16.k, hR.f17.k⟩⟩
            refine EachOf.cons [1] rfl (by kernel_rfl) ?_ ?_
            · rintro L A W ⟨v, rfl, hR⟩ hi hw K hK
              have e1 := hR.f1 (hw 1 (by simp))
              simp only [e1]
              clear e1
              have q0 := (hR.st.cell (p := ⟨x3, 1, none⟩) LR.out.2).trans LR.out.1
              go_simp
              refine hK.out _ _ ?_
              exact ⟨(fun jz => if jz = 24 then .pointer (some ⟨x3, 1, none⟩) else if jz = 25 then .slice (some ⟨hb, ho, none⟩) (n) (hc) else v jz), rfl, ⟨hR.st, (fun _ j hj => upd_on (hw j hj)), hR.w4.o, hR.w5.o, hR.w7.o, hR.w8.o, hR.w9.o, hR.w10.o, hR.w11.o, hR.w12.o, hR.w13.o, hR.w14.o, hR.w15.o, hR.w16.o, hR.w17.o, hR.f0.k, (fun _ => rfl), (fun _ => rfl), hR.f3.k, hR.f4.k, hR.f5.k, hR.f6.k, hR.f7.k, hR.f8.k, hR.f9.k, hR.f10.k, hR.f11.k, hR.f12.k, hR.f13.k, hR.f14.k, hR.f15.k, hR.f16.k, hR.f17.k⟩⟩
            refine EachOf.cons [] rfl (by kernel_rfl) ?_ ?_
            · rintro L A W ⟨v, rfl, hR⟩ hi hw K hK
              go_simp
              refine hK.out _ _ ?_
              exact ⟨(fun jz => if jz = 26 then .int .i64 (i : Int) else v jz), rfl, ⟨hR.st, hR.w2.o, hR.w4.o, hR.w5.o, hR.w7.o, hR.w8.o, hR.w9.o, hR.w10.o, hR.w11.o, hR.w12.o, hR.w13.o, hR.w14.o, hR.w15.o, hR.w16.o, hR.w17.o, hR.f0.k, hR.f1.k, hR.f2.k, (fun _ => rfl), hR.f4.k, hR.f5.k, hR.f6.k, hR.f7.k, hR.f8.k, hR.f9.k, hR.f10.k, hR.f11.k, hR.f12.k, hR.f13.k, hR.f14.k, hR.f15.k, hR.f16.k, hR.f17.k⟩⟩
            refine EachOf.cons [2, 3] rfl (by kernel_rfl) ?_ ?_
            · rintro L A W ⟨v, rfl, hR⟩ hi hw K hK
              have e2 := hR.f2 (hw 2 (by simp))
              have e3 := hR.f3 (hw 3 (by simp))
              simp only [e2, e3]
              clear e2 e3
              go_simp
              refine hK.out _ _ ?_
              exact ⟨(fun jz => if jz = 25 then .slice (some ⟨hb, ho, none⟩) (n) (hc) else if jz = 26 then .int .i64 (i : Int) else if jz = 27 then .pointer (some ⟨hb, ho + i * 4, none⟩) else v jz), rfl, ⟨hR.st, hR.w2.o, (fun _ j hj => upd_on (hw j hj)), hR.w5.o, hR.w7.o, hR.w8.o, hR.w9.o, hR.w10.o, hR.w11.o, hR.w12.o, hR.w13.o, hR.w14.o, hR.w15.o, hR.w16.o, hR.w17.o, hR.f0.k, hR.f1.k, (fun _ => rfl), (fun _ => rfl), (fun _ => rfl), hR.f5.k, hR.f6.k, hR.f7.k, hR.f8.k, hR.f9.k, hR.f10.k, hR.f11.k, hR.f12.k, hR.f13.k, hR.f14.k, hR.f15.k, hR.f16.k, hR.f17.k⟩⟩
            refine EachOf.cons [4] rfl (by kernel_rfl) ?_ ?_
            · rintro L A W ⟨v, rfl, hR⟩ hi hw K hK
              have e4 := hR.f4 (hw 4 (by simp))
              simp only [e4]
              clear e4
              have q0 := (hR.st.cell (p := ⟨hb, ho + i * 4, none⟩) LH0.out.2).trans LH0.out.1
              have q1 := (hR.st.cell (p := ⟨hb, ho + i * 4 + 1, none⟩) LH1.out.2).trans LH1.out.1
              have q2 := (hR.st.cell (p := ⟨hb, ho + i * 4 + 2, none⟩) LH2.out.2).trans LH2.out.1
              have q3 := (hR.st.cell (p := ⟨hb, ho + i * 4 + 3, none⟩) LH3.out.2).trans LH3.out.1
              go_simp
              refine hK.out _ _ ?_
              exact ⟨(fun jz => if jz = 27 then .pointer (some ⟨hb, ho + i * 4, none⟩) else if jz = 28 then .agg #[.string (hs i).blk, .int .i64 (hs i).pulls, .int .i64 (hs i).num, .int .i64 (hs i).den] else v jz), rfl, ⟨hR.st, hR.w2.o, hR.w4.o, (fun _ j hj => upd_on (hw j hj)), hR.w7.o, hR.w8.o, hR.w9.o, hR.w10.o, hR.w11.o, hR.w12.o, hR.w13.o, hR.w14.o, hR.w15.o, hR.w16.o, hR.w17.o, hR.f0.k, hR.f1.k, hR.f2.k, hR.f3.k, (fun _ => rfl), (fun _ => rfl), hR.f6.k, hR.f7.k, hR.f8.k, hR.f9.k, hR.f10.k, hR.f11.k, hR.f12.k, hR.f13.k, hR.f14.k, hR.f15.k, hR.f16.k, hR.f17.k⟩⟩
            refine EachOf.cons [] rfl (by kernel_rfl) ?_ ?_
            · rintro L A W ⟨v, rfl, hR⟩ hi hw K hK
              go_simp
              refine hK.out _ _ ?_
              exact ⟨(fun jz => if jz = 29 then .int .i64 (i : Int) else v jz), rfl, ⟨hR.st, hR.w2.o, hR.w4.o, hR.w5.o, hR.w7.o, hR.w8.o, hR.w9.o, hR.w10.o, hR.w11.o, hR.w12.o, hR.w13.o, hR.w14.o, hR.w15.o, hR.w16.o, hR.w17.o, hR.f0.k, hR.f1.k, hR.f2.k, hR.f3.k, hR.f4.k, hR.f5.k, (fun _ => rfl), hR.f7.k, hR.f8.k, hR.f9.k, hR.f10.k, hR.f11.k, hR.f12.k, hR.f13.k, hR.f14.k, hR.f15.k, hR.f16.k, hR.f17.k⟩⟩
            refine EachOf.cons [6] rfl (by kernel_rfl) ?_ ?_
            · rintro L A W ⟨v, rfl, hR⟩ hi hw K hK
              have e6 := hR.f6 (hw 6 (by simp))
              simp only [e6]
              clear e6
              go_simp
              refine hK.out _ _ ?_
              exact ⟨(fun jz => if jz = 29 then .int .i64 (i : Int) else if jz = 30 then .bool true else v jz), rfl, ⟨hR.st, hR.w2.o, hR.w4.o, hR.w5.o, (fun _ j hj => upd_on (hw j hj)), hR.w8.o, hR.w9.o, hR.w10.o, hR.w11.o, hR.w12.o, hR.w13.o, hR.w14.o, hR.w15.o, hR.w16.o, hR.w17.o, hR.f0.k, hR.f1.k, hR.f2.k, hR.f3.k, hR.f4.k, hR.f5.k, (fun _ => rfl), (fun _ => rfl), hR.f8.k, hR.f9.k, hR.f10.k, hR.f11.k, hR.f12.k, hR.f13.k, hR.f14.k, hR.f15.k, hR.f16.k, hR.f17.k⟩⟩
            refine EachOf.cons [7] rfl (by kernel_rfl) ?_ ?_
            · rintro L A W ⟨v, rfl, hR⟩ hi hw K hK
              have e7 := hR.f7 (hw 7 (by simp))
              simp only [e7]
              clear e7
              go_simp
              refine hK.out _ _ ?_
              exact ⟨(fun jz => if jz = 30 then .bool true else if jz = 31 then .bool true else v jz), rfl, ⟨hR.st, hR.w2.o, hR.w4.o, hR.w5.o, hR.w7.o, (fun _ j hj => upd_on (hw j hj)), hR.w9.o, hR.w10.o, hR.w11.o, hR.w12.o, hR.w13.o, hR.w14.o, hR.w15.o, hR.w16.o, hR.w17.o, hR.f0.k, hR.f1.k, hR.f2.k, hR.f3.k, hR.f4.k, hR.f5.k, hR.f6.k, (fun _ => rfl), (fun _ => rfl), hR.f9.k, hR.f10.k, hR.f11.k, hR.f12.k, hR.f13.k, hR.f14.k, hR.f15.k, hR.f16.k, hR.f17.k⟩⟩
            refine EachOf.cons [8] rfl (by kernel_rfl) ?_ ?_
            · rintro L A W ⟨v, rfl, hR⟩ hi hw K hK
              have e8 := hR.f8 (hw 8 (by simp))
              simp only [e8]
              clear e8
              go_simp
              refine hK.out _ _ ?_
              exact ⟨(fun jz => if jz = 31 then .bool true else if jz = 32 then undef else v jz), rfl, ⟨hR.st, hR.w2.o, hR.w4.o, hR.w5.o, hR.w7.o, hR.w8.o, (fun _ j hj => upd_on (hw j hj)), hR.w10.o, hR.w11.o, hR.w12.o, hR.w13.o, hR.w14.o, hR.w15.o, hR.w16.o, hR.w17.o, hR.f0.k, hR.f1.k, hR.f2.k, hR.f3.k, hR.f4.k, hR.f5.k, hR.f6.k, hR.f7.k, (fun _ => rfl), (fun _ => rfl), hR.f10.k, hR.f11.k, hR.f12.k, hR.f13.k, hR.f14.k, hR.f15.k, hR.f16.k, hR.f17.k⟩⟩
            refine EachOf.cons [8] rfl (by kernel_rfl) ?_ ?_
            · rintro L A W ⟨v, rfl, hR⟩ hi hw K hK
              have e8 := hR.f8 (hw 8 (by simp))
              simp only [e8]
              clear e8
              go_simp
              refine hK.out _ _ ?_
              exact ⟨(fun jz => if jz = 31 then .bool true else if jz = 33 then undef else v jz), rfl, ⟨hR.st, hR.w2.o, hR.w4.o, hR.w5.o, hR.w7.o, hR.w8.o, hR.w9.o, (fun _ j hj => upd_on (hw j hj)), hR.w11.o, hR.w12.o, hR.w13.o, hR.w14.o, hR.w15.o, hR.w16.o, hR.w17.o, hR.f0.k, hR.f1.k, hR.f2.k, hR.f3.k, hR.f4.k, hR.f5.k, hR.f6.k, hR.f7.k, (fun _ => rfl), hR.f9.k, (fun _ => rfl), hR.f11.k, hR.f12.k, hR.f13.k, hR.f14.k, hR.f15.k, hR.f16.k, hR.f17.k⟩⟩
            refine EachOf.cons [8, 10] rfl (by kernel_rfl) ?_ ?_
            · rintro L A W ⟨v, rfl, hR⟩ hi hw K hK
              have e10 := hR.f10 (hw 10 (by simp))
              have e8 := hR.f8 (hw 8 (by simp))
              simp only [e10, e8]
              clear e10 e8
              go_simp
              refine hK.out _ _ ?_
              exact ⟨(fun jz => if jz = 33 then undef else if jz = 31 then .bool true else if jz = 34 then undef else v jz), rfl, ⟨hR.st, hR.w2.o, hR.w4.o, hR.w5.o, hR.w7.o, hR.w8.o, hR.w9.o, hR.w10.o, (fun _ j hj => upd_on (hw j hj)), hR.w12.o, hR.w13.o, hR.w14.o, hR.w15.o, hR.w16.o, hR.w17.o, hR.f0.k, hR.f1.k, hR.f2.k, hR.f3.k, hR.f4.k, hR.f5.k, hR.f6.k, hR.f7.k, (fun _ => rfl), hR.f9.k, (fun _ => rfl), (fun _ => rfl), hR.f12.k, hR.f13.k, hR.f14.k, hR.f15.k, hR.f16.k, hR.f17.k⟩⟩
            refine EachOf.cons [8, 11] rfl (by kernel_rfl) ?_ ?_
            · rintro L A W ⟨v, rfl, hR⟩ hi hw K hK
              have e11 := hR.f11 (hw 11 (by simp))
              have e8 := hR.f8 (hw 8 (by simp))
              simp only [e11, e8]
              clear e11 e8
              go_simp
              refine hK.out _ _ ?_
              exact ⟨(fun jz => if jz = 34 then undef else if jz = 31 then .bool true else if jz = 35 then undef else v jz), rfl, ⟨hR.st, hR.w2.o, hR.w4.o, hR.w5.o, hR.w7.o, hR.w8.o, hR.w9.o, hR.w10.o, hR.w11.o, (fun _ j hj => upd_on (hw j hj)), hR.w13.o, hR.w14.o, hR.w15.o, hR.w16.o, hR.w17.o, hR.f0.k, hR.f1.k, hR.f2.k, hR.f3.k, hR.f4.k, hR.f5.k, hR.f6.k, hR.f7.k, (fun _ => rfl), hR.f9.k, hR.f10.k, (fun _ => rfl), (fun _ => rfl), hR.f13.k, hR.f14.k, hR.f15.k, hR.f16.k, hR.f17.k⟩⟩
            refine EachOf.cons [8, 12] rfl (by kernel_rfl) ?_ ?_
            · rintro L A W ⟨v, rfl, hR⟩ hi hw K hK
              have e12 := hR.f12 (hw 12 (by simp))
              have e8 := hR.f8 (hw 8 (by simp))
              simp only [e12, e8]
              clear e12 e8
              go_simp
              refine hK.out _ _ ?_
              exact ⟨(fun jz => if jz = 35 then undef else if jz = 31 then .bool true else if jz = 36 then undef else v jz), rfl, ⟨hR.st, hR.w2.o, hR.w4.o, hR.w5.o, hR.w7.o, hR.w8.o, hR.w9.o, hR.w10.o, hR.w11.o, hR.w12.o, (fun _ j hj => upd_on (hw j hj)), hR.w14.o, hR.w15.o, hR.w16.o, hR.w17.o, hR.f0.k, hR.f1.k, hR.f2.k, hR.f3.k, hR.f4.k, hR.f5.k, hR.f6.k, hR.f7.k, (fun _ => rfl), hR.f9.k, hR.f10.k, hR.f11.k, (fun _ => rfl), (fun _ => rfl), hR.f14.k, hR.f15.k, hR.f16.k, hR.f17.k⟩⟩
            refine EachOf.cons [8, 9, 13] rfl (by kernel_rfl) ?_ ?_
            · rintro L A W ⟨v, rfl, hR⟩ hi hw K hK
              have e9 := hR.f9 (hw 9 (by simp))
              have e13 := hR.f13 (hw 13 (by simp))
              have e8 := hR.f8 (hw 8 (by simp))
              simp only [e9, e13, e8]
              clear e9 e13 e8
              go_simp
              refine hK.out _ _ ?_
              exact ⟨(fun jz => if jz = 32 then undef else if jz = 36 then undef else if jz = 31 then .bool true else if jz = 37 then undef else v jz), rfl, ⟨hR.st, hR.w2.o, hR.w4.o, hR.w5.o, hR.w7.o, hR.w8.o, hR.w9.o, hR.w10.o, hR.w11.o, hR.w12.o, hR.w13.o, (fun _ j hj => upd_on (hw j hj)), hR.w15.o, hR.w16.o, hR.w17.o, hR.f0.k, hR.f1.k, hR.f2.k, hR.f3.k, hR.f4.k, hR.f5.k, hR.f6.k, hR.f7.k, (fun _ => rfl), (fun _ => rfl), hR.f10.k, hR.f11.k, hR.f12.k, (fun _ => rfl), (fun _ => rfl), hR.f15.k, hR.f16.k, hR.f17.k⟩⟩
            refine EachOf.cons [8, 14] rfl (by kernel_rfl) ?_ ?_
            · rintro L A W ⟨v, rfl, hR⟩ hi hw K hK
              have e8 := hR.f8 (hw 8 (by simp))
              have e14 := hR.f14 (hw 14 (by simp))
              simp only [e8, e14]
              clear e8 e14
              go_simp
              refine hK.out _ _ ?_
              exact ⟨(fun jz => if jz = 31 then .bool true else if jz = 37 then undef else if jz = 38 then .bool true else v jz), rfl, ⟨hR.st, hR.w2.o, hR.w4.o, hR.w5.o, hR.w7.o, hR.w8.o, hR.w9.o, hR.w10.o, hR.w11.o, hR.w12.o, hR.w13.o, hR.w14.o, (fun _ j hj => upd_on (hw j hj)), hR.w16.o, hR.w17.o, hR.f0.k, hR.f1.k, hR.f2.k, hR.f3.k, hR.f4.k, hR.f5.k, hR.f6.k, hR.f7.k, (fun _ => rfl), hR.f9.k, hR.f10.k, hR.f11.k, hR.f12.k, hR.f13.k, (fun _ => rfl), (fun _ => rfl), hR.f16.k, hR.f17.k⟩⟩
            refine EachOf.cons [0, 5, 15] rfl (by kernel_rfl) ?_ ?_
            · rintro L A W ⟨v, rfl, hR⟩ hi hw K hK
              have e0 := hR.f0 (hw 0 (by simp))
              have e5 := hR.f5 (hw 5 (by simp))
              have e15 := hR.f15 (hw 15 (by simp))
              simp only [e0, e5, e15]
              clear e0 e5 e15
              go_simp
              go_at_call 102
              (with_reducible refine ((Lib.hid (CR.out W hR.st)).out).mono ?_)
              rintro e w2 ⟨rfl, hb⟩
              go_simp
              refine hK.out _ _ ?_
              exact ⟨(fun jz => if jz = 23 then .agg #[.slice ba nb bc, .slice ra nr rc] else if jz = 28 then .agg #[.string (hs i).blk, .int .i64 (hs i).pulls, .int .i64 (hs i).num, .int .i64 (hs i).den] else if jz = 38 then .bool true else if jz = 39 then .bool t else v jz), rfl, ⟨below_on hR.st hb, hR.w2.o, hR.w4.o, hR.w5.o, hR.w7.o, hR.w8.o, hR.w9.o, hR.w10.o, hR.w11.o, hR.w12.o, hR.w13.o, hR.w14.o, hR.w15.o, (fun _ j hj => upd_on (hw j hj)), hR.w17.o, (fun _ => rfl), hR.f1.k, hR.f2.k, hR.f3.k, hR.f4.k, (fun _ => rfl), hR.f6.k, hR.f7.k, hR.f8.k, hR.f9.k, hR.f10.k, hR.f11.k, hR.f12.k, hR.f13.k, hR.f14.k, (fun _ => rfl), (fun _ => rfl), hR.f17.k⟩⟩
            refine EachOf.cons [16] rfl (by kernel_rfl) ?_ ?_
            · rintro L A W ⟨v, rfl, hR⟩ hi hw K hK
              have e16 := hR.f16 (hw 16 (by simp))
              simp only [e16]
              clear e16
              go_simp
              refine hK.out _ _ ?_
              exact ⟨(fun jz => if jz = 39 then .bool t else if jz = 40 then .bool nt else v jz), rfl, ⟨hR.st, hR.w2.o, hR.w4.o, hR.w5.o, hR.w7.o, hR.w8.o, hR.w9.o, hR.w10.o, hR.w11.o, hR.w12.o, hR.w13.o, hR.w14.o, hR.w15.o, hR.w16.o, (fun _ j hj => upd_on (hw j hj)), hR.f0.k, hR.f1.k, hR.f2.k, hR.f3.k, hR.f4.k, hR.f5.k, hR.f6.k, hR.f7.k, hR.f8.k, hR.f9.k, hR.f10.k, hR.f11.k, hR.f12.k, hR.f13.k, hR.f14.k, hR.f15.k, (fun _ => rfl), (fun _ => rfl)⟩⟩
            exact EachOf.nil
          rintro L A W3 ⟨vs, rfl, hR⟩ hL
          have e17 := hR.f17 (hL 17 (by simp))
          simp only [e17]
          have S3 := Lib.hid (below_on S.out.1 hR.st)
          clear e17 hR hL LH0 LH1 LH2 LH3 LS0 LS1 LR CR c1
          cases t
          · obtain rfl : v = false := HN.out.1 rfl
            obtain rfl : nt = true := HNT.out.symm
            clear HN HV2 hnt
            go_wp2_with fail
            go_ret
            exact ⟨rfl, below_on HB.out S3.out⟩
          · have S4 := Lib.hid (And.intro S3.out (HN.out.2 rfl))
            obtain rfl : nt = false := HNT.out.symm
            clear HN hnt
            go_wp2_with fail
            go_roundg (n - (i + 1))
            case measure => omega
            case rel => exact ⟨i + 1, rfl, rfl, by omega, S4⟩
        · have t1 : ((i : Int) == 0) = false := by simp; omega
          have t2 : ((i : Int) == ((n - 1 : Nat) : Int)) = ee := by
            rw [← hee]
            by_cases h : i + 1 = n
            · rw [decide_eq_true (Or.inr h)]; simp; omega
            · rw [decide_eq_false (by omega)]; simp; omega
          have HZ := Lib.hid (And.intro h0 hee)
          clear hee h0
          go_upto_region 6 with fail
          refine wp_region_each (fun L A W => ∃ (v : Nat → Value), A = ⟨#[_, _, _, _, _, _, _, _, _, _, _, _, _, _, _, _, _, _, _, _, _, _, _, v 23, v 24, v 25, v 26, v 27, v 28, v 29, v 30, v 31, v 32, v 33, v 34, v 35, v 36, v 37, v 38, v 39, v 40, _, _, _, _, _, _, _, _, _, _, _, _, _, _, _], []⟩ ∧ KrbR ba ra nb bc nr rc x2 x3 hb ho n hc i hs ee t nt W1 L v W) (by kernel_rfl) (by kernel_rfl) ⟨fun jz => if jz = 23 then u23 else if jz = 24 then u24 else if jz = 25 then u25 else if jz = 26 then u26 else if jz = 27 then u27 else if jz = 28 then u28 else if jz = 29 then u29 else if jz = 30 then u30 else if jz = 31 then u31 else if jz = 32 then u32 else if jz = 33 then u33 else if jz = 34 then u34 else if jz = 35 then u35 else if jz = 36 then u36 else if jz = 37 then u37 else if jz = 38 then u38 else if jz = 39 then u39 else if jz = 40 then u40 else undef, rfl, ⟨Below.drew (Below.refl _ _), Had.none, Had.none, Had.none, Had.none, Had.none, Had.none, Had.none, Had.none, Had.none, Had.none, Had.none, Had.none, Had.none, Had.none, Had.none, Had.none, Had.none, Had.none, Had.none, Had.none, Had.none, Had.none, Had.none, Had.none, Had.none, Had.none, Had.none, Had.none, Had.none, Had.none, Had.none, Had.none⟩⟩ (rs := [0, 1, 2, 3, 4, 5, 6, 7, 8, 9, 10, 11, 12, 13, 14, 15, 16, 17]) (by kernel_rfl) ?_ ?_
          · refine EachOf.cons [] rfl (by kernel_rfl) ?_ ?_
            · rintro L A W ⟨v, rfl, hR⟩ hi hw K hK
              have q0 := (hR.st.cell (p := ⟨x2, 0, none⟩) LS0.out.2).trans LS0.out.1
              have q1 := (hR.st.cell (p := ⟨x2, 1, none⟩) LS1.out.2).trans LS1.out.1
              go_simp
              refine hK.out _ _ ?_
              exact ⟨(fun jz => if jz = 23 then .agg #[.slice ba nb bc, .slice ra nr rc] else v jz), rfl, ⟨hR.st, hR.w2.o, hR.w4.o, hR.w5.o, hR.w7.o, hR.w8.o, hR.w9.o, hR.w10.o, hR.w11.o, hR.w12.o, hR.w13.o, hR.w14.o, hR.w15.o, hR.w16.o, hR.w17.o, (fun _ => rfl), hR.f1.k, hR.f2.k, hR.f3.k, hR.f4.k, hR.f5.k, hR.f6.k, hR.f7.k, hR.f8.k, hR.f9.k, hR.f10.k, hR.f11.k, hR.f12.k, hR.f13.k, hR.f14.k, hR.f15.k, hR.f16.k, hR.f17.k⟩⟩
            refine EachOf.cons [] rfl (by kernel_rfl) ?_ ?_
            · rintro L A W ⟨v, rfl, hR⟩ hi hw K hK
              go_simp
              refine hK.out _ _ ?_
              exact ⟨(fun jz => if jz = 24 then .pointer (some ⟨x3, 1, none⟩) else v jz), rfl, ⟨hR.st, hR.w2.o, hR.w4.o, hR.w5.o, hR.w7.o, hR.w8.o, hR.w9.o, hR.w10.o, hR.w11.o, hR.w12.o, hR.w13.o, hR.w14.o, hR.w15.o, hR.w16.o, hR.w17.o, hR.f0.k, (fun _ => rfl), hR.f2.k, hR.f3.k, hR.f4.k, hR.f5.k, hR.f6.k, hR.f7.k, hR.f8.k, hR.f9.k, hR.f10.k, hR.f11.k, hR.f12.k, hR.f13.k, hR.f14.k, hR.f15.k, hR.f16.k, hR.f17.k⟩⟩
            refine EachOf.cons [1] rfl (by kernel_rfl) ?_ ?_
            · rintro L A W ⟨v, rfl, hR⟩ hi hw K hK
              have e1 := hR.f1 (hw 1 (by simp))
              simp only [e1]
              clear e1
              have q0 := (hR.st.cell (p := ⟨x3, 1, none⟩) LR.out.2).trans LR.out.1
              go_simp
              refine hK.out _ _ ?_
              exact ⟨(fun jz => if jz = 24 then .pointer (some ⟨x3, 1, none⟩) else if jz = 25 then .slice (some ⟨hb, ho, none⟩) (n) (hc) else v jz), rfl, ⟨hR.st, (fun _ j hj => upd_on (hw j hj)), hR.w4.o, hR.w5.o, hR.w7.o, hR.w8.o, hR.w9.o, hR.w10.o, hR.w11.o, hR.w12.o, hR.w13.o, hR.w14.o, hR.w15.o, hR.w16.o, hR.w17.o, hR.f0.k, (fun _ => rfl), (fun _ => rfl), hR.f3.k, hR.f4.k, hR.f5.k, hR.f6.k, hR.f7.k, hR.f8.k, hR.f9.k, hR.f10.k, hR.f11.k, hR.f12.k, hR.f13.k, hR.f14.k, hR.f15.k, hR.f16.k, hR.f17.k⟩⟩
            refine EachOf.cons [] rfl (by kernel_rfl) ?_ ?_
            · rintro L A W ⟨v, rfl, hR⟩ hi hw K hK
              go_simp
              refine hK.out _ _ ?_
              exact ⟨(fun jz => if jz = 26 then .int .i64 (i : Int) else v jz), rfl, ⟨hR.st, hR.w2.o, hR.w4.o, hR.w5.o, hR.w7.o, hR.w8.o, hR.w9.o, hR.w10.o, hR.w11.o, hR.w12.o, hR.w13.o, hR.w14.o, hR.w15.o, hR.w16.o, hR.w17.o, hR.f0.k, hR.f1.k, hR.f2.k, (fun _ => rfl), hR.f4.k, hR.f5.k, hR.f6.k, hR.f7.k, hR.f8.k, hR.f9.k, hR.f10.k, hR.f11.k, hR.f12.k, hR.f13.k, hR.f14.k, hR.f15.k, hR.f16.k, hR.f17.k⟩⟩
            refine EachOf.cons [2, 3] rfl (by kernel_rfl) ?_ ?_
            · rintro L A W ⟨v, rfl, hR⟩ hi hw K hK
              have e2 := hR.f2 (hw 2 (by simp))
              have e3 := hR.f3 (hw 3 (by simp))
              simp only [e2, e3]
              clear e2 e3
              go_simp
              refine hK.out _ _ ?_
              exact ⟨(fun jz => if jz = 25 then .slice (some ⟨hb, ho, none⟩) (n) (hc) else if jz = 26 then .int .i64 (i : Int) else if jz = 27 then .pointer (some ⟨hb, ho + i * 4, none⟩) else v jz), rfl, ⟨hR.st, hR.w2.o, (fun _ j hj => upd_on (hw j hj)), hR.w5.o, hR.w7.o, hR.w8.o, hR.w9.o, hR.w10.o, hR.w11.o, hR.w12.o, hR.w13.o, hR.w14.o, hR.w15.o, hR.w16.o, hR.w17.o, hR.f0.k, hR.f1.k, (fun _ => rfl), (fun _ => rfl), (fun _ => rfl), hR.f5.k, hR.f6.k, hR.f7.k, hR.f8.k, hR.f9.k, hR.f10.k, hR.f11.k, hR.f12.k, hR.f13.k, hR.f14.k, hR.f15.k, hR.f16.k, hR.f17.k⟩⟩
            refine EachOf.cons [4] rfl (by kernel_rfl) ?_ ?_
            · rintro L A W ⟨v, rfl, hR⟩ hi hw K hK
              have e4 := hR.f4 (hw 4 (by simp))
              simp only [e4]
              clear e4
              have q0 := (hR.st.cell (p := ⟨hb, ho + i * 4, none⟩) LH0.out.2).trans LH0.out.1
              have q1 := (hR.st.cell (p := ⟨hb, ho + i * 4 + 1, none⟩) LH1.out.2).trans LH1.out.1
              have q2 := (hR.st.cell (p := ⟨hb, ho + i * 4 + 2, none⟩) LH2.out.2).trans LH2.out.1
              have q3 := (hR.st.cell (p := ⟨hb, ho + i * 4 + 3, none⟩) LH3.out.2).trans LH3.out.1
              go_simp
              refine hK.out _ _ ?_
              exact ⟨(fun jz => if jz = 27 then .pointer (some ⟨hb, ho + i * 4, none⟩) else if jz = 28 then .agg #[.string (hs i).blk, .int .i64 (hs i).pulls, .int .i64 (hs i).num, .int .i64 (hs i).den] else v jz), rfl, ⟨hR.st, hR.w2.o, hR.w4.o, (fun _ j hj => upd_on (hw j hj)), hR.w7.o, hR.w8.o, hR.w9.o, hR.w10.o, hR.w11.o, hR.w12.o, hR.w13.o, hR.w14.o, hR.w15.o, hR.w16.o, hR.w17.o, hR.f0.k, hR.f1.k, hR.f2.k, hR.f3.k, (fun _ => rfl), (fun _ => rfl), hR.f6.k, hR.f7.k, hR.f8.k, hR.f9.k, hR.f10.k, hR.f11.k, hR.f12.k, hR.f13.k, hR.f14.k, hR.f15.k, hR.f16.k, hR.f17.k⟩⟩
            refine EachOf.cons [] rfl (by kernel_rfl) ?_ ?_
            · rintro L A W ⟨v, rfl, hR⟩ hi hw K hK
              go_simp
              refine hK.out _ _ ?_
              exact ⟨(fun jz => if jz = 29 then .int .i64 (i : Int) else v jz), rfl, ⟨hR.st, hR.w2.o, hR.w4.o, hR.w5.o, hR.w7.o, hR.w8.o, hR.w9.o, hR.w10.o, hR.w11.o, hR.w12.o, hR.w13.o, hR.w14.o, hR.w15.o, hR.w16.o, hR.w17.o, hR.f0.k, hR.f1.k, hR.f2.k, hR.f3.k, hR.f4.k, hR.f5.k, (fun _ => rfl), hR.f7.k, hR.f8.k, hR.f9.k, hR.f10.k, hR.f11.k, hR.f12.k, hR.f13.k, hR.f14.k, hR.f15.k, hR.f16.k, hR.f17.k⟩⟩
            refine EachOf.cons [6] rfl (by kernel_rfl) ?_ ?_
            · rintro L A W ⟨v, rfl, hR⟩ hi hw K hK
              have e6 := hR.f6 (hw 6 (by simp))
              simp only [e6]
              clear e6
              go_simp
              refine hK.out _ _ ?_
              exact ⟨(fun jz => if jz = 29 then .int .i64 (i : Int) else if jz = 30 then .bool false else v jz), rfl, ⟨hR.st, hR.w2.o, hR.w4.o, hR.w5.o, (fun _ j hj => upd_on (hw j hj)), hR.w8.o, hR.w9.o, hR.w10.o, hR.w11.o, hR.w12.o, hR.w13.o, hR.w14.o, hR.w15.o, hR.w16.o, hR.w17.o, hR.f0.k, hR.f1.k, hR.f2.k, hR.f3.k, hR.f4.k, hR.f5.k, (fun _ => rfl), (fun _ => rfl), hR.f8.k, hR.f9.k, hR.f10.k, hR.f11.k, hR.f12.k, hR.f13.k, hR.f14.k, hR.f15.k, hR.f16.k, hR.f17.k⟩⟩
            refine EachOf.cons [7] rfl (by kernel_rfl) ?_ ?_
            · rintro L A W ⟨v, rfl, hR⟩ hi hw K hK
              have e7 := hR.f7 (hw 7 (by simp))
              simp only [e7]
              clear e7
              go_simp
              refine hK.out _ _ ?_
              exact ⟨(fun jz => if jz = 30 then .bool false else if jz = 31 then .bool false else v jz), rfl, ⟨hR.st, hR.w2.o, hR.w4.o, hR.w5.o, hR.w7.o, (fun _ j hj => upd_on (hw j hj)), hR.w9.o, hR.w10.o, hR.w11.o, hR.w12.o, hR.w13.o, hR.w14.o, hR.w15.o, hR.w16.o, hR.w17.o, hR.f0.k, hR.f1.k, hR.f2.k, hR.f3.k, hR.f4.k, hR.f5.k, hR.f6.k, (fun _ => rfl), (fun _ => rfl), hR.f9.k, hR.f10.k, hR.f11.k, hR.f12.k, hR.f13.k, hR.f14.k, hR.f15.k, hR.f16.k, hR.f17.k⟩⟩
            refine EachOf.cons [8] rfl (by kernel_rfl) ?_ ?_
            · rintro L A W ⟨v, rfl, hR⟩ hi hw K hK
              have e8 := hR.f8 (hw 8 (by simp))
              simp only [e8]
              clear e8
              go_simp
              refine hK.out _ _ ?_
              exact ⟨(fun jz => if jz = 31 then .bool false else if jz = 32 then .int .i64 (i : Int) else v jz), rfl, ⟨hR.st, hR.w2.o, hR.w4.o, hR.w5.o, hR.w7.o, hR.w8.o, (fun _ j hj => upd_on (hw j hj)), hR.w10.o, hR.w11.o, hR.w12.o, hR.w13.o, hR.w14.o, hR.w15.o, hR.w16.o, hR.w17.o, hR.f0.k, hR.f1.k, hR.f2.k, hR.f3.k, hR.f4.k, hR.f5.k, hR.f6.k, hR.f7.k, (fun _ => rfl), (fun _ => rfl), hR.f10.k, hR.f11.k, hR.f12.k, hR.f13.k, hR.f14.k, hR.f15.k, hR.f16.k, hR.f17.k⟩⟩
            refine EachOf.cons [8] rfl (by kernel_rfl) ?_ ?_
            · rintro L A W ⟨v, rfl, hR⟩ hi hw K hK
              have e8 := hR.f8 (hw 8 (by simp))
              simp only [e8]
              clear e8
              go_simp
              refine hK.out _ _ ?_
              exact ⟨(fun jz => if jz = 31 then .bool false else if jz = 33 then .pointer (some ⟨x3, 1, none⟩) else v jz), rfl, ⟨hR.st, hR.w2.o, hR.w4.o, hR.w5.o, hR.w7.o, hR.w8.o, hR.w9.o, (fun _ j hj => upd_on (hw j hj)), hR.w11.o, hR.w12.o, hR.w13.o, hR.w14.o, hR.w15.o, hR.w16.o, hR.w17.o, hR.f0.k, hR.f1.k, hR.f2.k, hR.f3.k, hR.f4.k, hR.f5.k, hR.f6.k, hR.f7.k, (fun _ => rfl), hR.f9.k, (fun _ => rfl), hR.f11.k, hR.f12.k, hR.f13.k, hR.f14.k, hR.f15.k, hR.f16.k, hR.f17.k⟩⟩
            refine EachOf.cons [8, 10] rfl (by kernel_rfl) ?_ ?_
            · rintro L A W ⟨v, rfl, hR⟩ hi hw K hK
              have e10 := hR.f10 (hw 10 (by simp))
              have e8 := hR.f8 (hw 8 (by simp))
              simp only [e10, e8]
              clear e10 e8
              have q0 := (hR.st.cell (p := ⟨x3, 1, none⟩) LR.out.2).trans LR.out.1
              go_simp
              refine hK.out _ _ ?_
              exact ⟨(fun jz => if jz = 33 then .pointer (some ⟨x3, 1, none⟩) else if jz = 31 then .bool false else if jz = 34 then .slice (some ⟨hb, ho, none⟩) (n) (hc) else v jz), rfl, ⟨hR.st, hR.w2.o, hR.w4.o, hR.w5.o, hR.w7.o, hR.w8.o, hR.w9.o, hR.w10.o, (fun _ j hj => upd_on (hw j hj)), hR.w12.o, hR.w13.o, hR.w14.o, hR.w15.o, hR.w16.o, hR.w17.o, hR.f0.k, hR.f1.k, hR.f2.k, hR.f3.k, hR.f4.k, hR.f5.k, hR.f6.k, hR.f7.k, (fun _ => rfl), hR.f9.k, (fun _ => rfl), (fun _ => rfl), hR.f12.k, hR.f13.k, hR.f14.k, hR.f15.k, hR.f16.k, hR.f17.k⟩⟩
            refine EachOf.cons [8, 11] rfl (by kernel_rfl) ?_ ?_
            · rintro L A W ⟨v, rfl, hR⟩ hi hw K hK
              have e11 := hR.f11 (hw 11 (by simp))
              have e8 := hR.f8 (hw 8 (by simp))
              simp only [e11, e8]
              clear e11 e8
              go_simp
              refine hK.out _ _ ?_
              exact ⟨(fun jz => if jz = 34 then .slice (some ⟨hb, ho, none⟩) (n) (hc) else if jz = 31 then .bool false else if jz = 35 then .int .i64 (n : Int) else v jz), rfl, ⟨hR.st, hR.w2.o, hR.w4.o, hR.w5.o, hR.w7.o, hR.w8.o, hR.w9.o, hR.w10.o, hR.w11.o, (fun _ j hj => upd_on (hw j hj)), hR.w13.o, hR.w14.o, hR.w15.o, hR.w16.o, hR.w17.o, hR.f0.k, hR.f1.k, hR.f2.k, hR.f3.k, hR.f4.k, hR.f5.k, hR.f6.k, hR.f7.k, (fun _ => rfl), hR.f9.k, hR.f10.k, (fun _ => rfl), (fun _ => rfl), hR.f13.k, hR.f14.k, hR.f15.k, hR.f16.k, hR.f17.k⟩⟩
            refine EachOf.cons [8, 12] rfl (by kernel_rfl) ?_ ?_
            · rintro L A W ⟨v, rfl, hR⟩ hi hw K hK
              have e12 := hR.f12 (hw 12 (by simp))
              have e8 := hR.f8 (hw 8 (by simp))
              simp only [e12, e8]
              clear e12 e8
              go_simp
              refine hK.out _ _ ?_
              exact ⟨(fun jz => if jz = 35 then .int .i64 (n : Int) else if jz = 31 then .bool false else if jz = 36 then .int .i64 ((n - 1 : Nat) : Int) else v jz), rfl, ⟨hR.st, hR.w2.o, hR.w4.o, hR.w5.o, hR.w7.o, hR.w8.o, hR.w9.o, hR.w10.o, hR.w11.o, hR.w12.o, (fun _ j hj => upd_on (hw j hj)), hR.w14.o, hR.w15.o, hR.w16.o, hR.w17.o, hR.f0.k, hR.f1.k, hR.f2.k, hR.f3.k, hR.f4.k, hR.f5.k, hR.f6.k, hR.f7.k, (fun _ => rfl), hR.f9.k, hR.f10.k, hR.f11.k, (fun _ => rfl), (fun _ => rfl), hR.f14.k, hR.f15.k, hR.f16.k, hR.f17.k⟩⟩
            refine EachOf.cons [8, 9, 13] rfl (by kernel_rfl) ?_ ?_
            · rintro L A W ⟨v, rfl, hR⟩ hi hw K hK
              have e9 := hR.f9 (hw 9 (by simp))
              have e13 := hR.f13 (hw 13 (by simp))
              have e8 := hR.f8 (hw 8 (by simp))
              simp only [e9, e13, e8]
              clear e9 e13 e8
              go_simp
              refine hK.out _ _ ?_
              exact ⟨(fun jz => if jz = 32 then .int .i64 (i : Int) else if jz = 36 then .int .i64 ((n - 1 : Nat) : Int) else if jz = 31 then .bool false else if jz = 37 then .bool ee else v jz), rfl, ⟨hR.st, hR.w2.o, hR.w4.o, hR.w5.o, hR.w7.o, hR.w8.o, hR.w9.o, hR.w10.o, hR.w11.o, hR.w12.o, hR.w13.o, (fun _ j hj => upd_on (hw j hj)), hR.w15.o, hR.w16.o, hR.w17.o, hR.f0.k, hR.f1.k, hR.f2.k, hR.f3.k, hR.f4.k, hR.f5.k, hR.f6.k, hR.f7.k, (fun _ => rfl), (fun _ => rfl), hR.f10.k, hR.f11.k, hR.f12.k, (fun _ => rfl), (fun _ => rfl), hR.f15.k, hR.f16.k, hR.f17.k⟩⟩
            refine EachOf.cons [8, 14] rfl (by kernel_rfl) ?_ ?_
            · rintro L A W ⟨v, rfl, hR⟩ hi hw K hK
              have e8 := hR.f8 (hw 8 (by simp))
              have e14 := hR.f14 (hw 14 (by simp))
              simp only [e8, e14]
              clear e8 e14
              go_simp
              refine hK.out _ _ ?_
              exact ⟨(fun jz => if jz = 31 then .bool false else if jz = 37 then .bool ee else if jz = 38 then .bool ee else v jz), rfl, ⟨hR.st, hR.w2.o, hR.w4.o, hR.w5.o, hR.w7.o, hR.w8.o, hR.w9.o, hR.w10.o, hR.w11.o, hR.w12.o, hR.w13.o, hR.w14.o, (fun _ j hj => upd_on (hw j hj)), hR.w16.o, hR.w17.o, hR.f0.k, hR.f1.k, hR.f2.k, hR.f3.k, hR.f4.k, hR.f5.k, hR.f6.k, hR.f7.k, (fun _ => rfl), hR.f9.k, hR.f10.k, hR.f11.k, hR.f12.k, hR.f13.k, (fun _ => rfl), (fun _ => rfl), hR.f16.k, hR.f17.k⟩⟩
            refine EachOf.cons [0, 5, 15] rfl (by kernel_rfl) ?_ ?_
            · rintro L A W ⟨v, rfl, hR⟩ hi hw K hK
              have e0 := hR.f0 (hw 0 (by simp))
              have e5 := hR.f5 (hw 5 (by simp))
              have e15 := hR.f15 (hw 15 (by simp))
              simp only [e0, e5, e15]
              clear e0 e5 e15
              go_simp
              go_at_call 102
              (with_reducible refine ((Lib.hid (CR.out W hR.st)).out).mono ?_)
              rintro e w2 ⟨rfl, hb⟩
              go_simp
              refine hK.out _ _ ?_
              exact ⟨(fun jz => if jz = 23 then .agg #[.slice ba nb bc, .slice ra nr rc] else if jz = 28 then .agg #[.string (hs i).blk, .int .i64 (hs i).pulls, .int .i64 (hs i).num, .int .i64 (hs i).den] else if jz = 38 then .bool ee else if jz = 39 then .bool t else v jz), rfl, ⟨below_on hR.st hb, hR.w2.o, hR.w4.o, hR.w5.o, hR.w7.o, hR.w8.o, hR.w9.o, hR.w10.o, hR.w11.o, hR.w12.o, hR.w13.o, hR.w14.o, hR.w15.o, (fun _ j hj => upd_on (hw j hj)), hR.w17.o, (fun _ => rfl), hR.f1.k, hR.f2.k, hR.f3.k, hR.f4.k, (fun _ => rfl), hR.f6.k, hR.f7.k, hR.f8.k, hR.f9.k, hR.f10.k, hR.f11.k, hR.f12.k, hR.f13.k, hR.f14.k, (fun _ => rfl), (fun _ => rfl), hR.f17.k⟩⟩
            refine EachOf.cons [16] rfl (by kernel_rfl) ?_ ?_
            · rintro L A W ⟨v, rfl, hR⟩ hi hw K hK
              have e16 := hR.f16 (hw 16 (by simp))
              simp only [e16]
              clear e16
              go_simp
              refine hK.out _ _ ?_
              exact ⟨(fun jz => if jz = 39 then .bool t else if jz = 40 then .bool nt else v jz), rfl, ⟨hR.st, hR.w2.o, hR.w4.o, hR.w5.o, hR.w7.o, hR.w8.o, hR.w9.o, hR.w10.o, hR.w11.o, hR.w12.o, hR.w13.o, hR.w14.o, hR.w15.o, hR.w16.o, (fun _ j hj => upd_on (hw j hj)), hR.f0.k, hR.f1.k, hR.f2.k, hR.f3.k, hR.f4.k, hR.f5.k, hR.f6.k, hR.f7.k, hR.f8.k, hR.f9.k, hR.f10.k, hR.f11.k, hR.f12.k, hR.f13.k, hR.f14.k, hR.f15.k, (fun _ => rfl), (fun _ => rfl)⟩⟩
            exact EachOf.nil
          rintro L A W3 ⟨vs, rfl, hR⟩ hL
          have e17 := hR.f17 (hL 17 (by simp))
          simp only [e17]
          have S3 := Lib.hid (below_on S.out.1 hR.st)
          clear e17 hR hL LH0 LH1 LH2 LH3 LS0 LS1 LR CR c1
          cases t
          · obtain rfl : v = false := HN.out.1 rfl
            obtain rfl : nt = true := HNT.out.symm
            clear HN HV2 hnt
            go_wp2_with fail
            go_ret
            exact ⟨rfl, below_on HB.out S3.out⟩
          · have S4 := Lib.hid (And.intro S3.out (HN.out.2 rfl))
            obtain rfl : nt = false := HNT.out.symm
            clear HN hnt
            go_wp2_with fail
            go_roundg (n - (i + 1))
            case measure => omega
            case rel => exact ⟨i + 1, rfl, rfl, by omega, S4⟩
      · have lk : ¬ (i : Int) < (n : Int) := by omega
        have e : n = i := by omega
        subst e
        have c2 := (S.out.1.cell (p := ⟨x3, 2, none⟩) HC.out.lt).trans HC.out.c2
        have HE := Lib.hid (below_on HB.out S.out.1)
        have ln : ((n - 1 : Nat) : Int) < (n : Int) := by omega
        have ln2 : n - 1 < n := by omega
        have q1 := (S.out.1.cell (p := ⟨hb, ho + (n - 1) * 4, none⟩) HT.out.1).trans (HT.out.2 (n - 1) ln2).1
        obtain ⟨z, hz⟩ : ∃ z, n - 1 = z := ⟨_, rfl⟩
        have hv3 := HV2.out
        have hs2 := S.out.2
        obtain ⟨y, hy⟩ : ∃ y, (hs (n - 1)).blk = y := ⟨_, rfl⟩
        rw [hy] at q1 hv3
        rw [hz] at q1 ln ln2 wl
        have HZ := Lib.hid (And.intro hz hy)
        clear hz hy S HV2 lk hi hlt
        cases hd
        · have e : v = true := hv3.2 ⟨hs2, fun h => by cases h⟩
          subst e
          clear hv3 hs2 q1
          go_wp2_with fail
          go_ret
          exact ⟨rfl, HE.out⟩
        · by_cases hb0 : y = ByteArray.empty
          · have e : v = true := hv3.2 ⟨hs2, fun h => hb0⟩
            subst e
            subst hb0
            clear hv3 hs2
            go_wp2_with fail
            go_ret
            exact ⟨rfl, HE.out⟩
          · have e : v = false := by
              cases e : v
              · rfl
              · exact absurd ((hv3.1 e).2 rfl) hb0
            subst e
            have h1 := str_ne hb0
            clear hv3 hs2
            go_wp2_with fail
            go_ret
            exact ⟨rfl, HE.out⟩
  · have e : v = false := by
      cases e : v
      · rfl
      · exact absurd (HV.out.1 e).1 h2
    subst e
    clear HV
    by_cases g1 : (n : Int) < 2
    · clear h2
      go_enter Tryd.func70, Tryd.ntmps70
      go_upto_region 1 with fail
      rw [← HD.out.2.2, ← HD.out.2.1, ← HD.out.1]
      go_wp2_with fail
      go_ret
      exact ⟨rfl, HB.out⟩
    · have g2 : 10 < (n : Int) := by omega
      clear h2
      go_enter Tryd.func70, Tryd.ntmps70
      go_upto_region 1 with fail
      rw [← HD.out.2.2, ← HD.out.2.1, ← HD.out.1]
      go_wp2_with fail
      go_ret
      exact ⟨rfl, HB.out⟩
end Go.Proofs.YtcghjjfpjiacfaaDoor
