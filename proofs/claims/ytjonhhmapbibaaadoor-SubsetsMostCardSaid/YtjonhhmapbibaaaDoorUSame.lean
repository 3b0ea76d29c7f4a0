/- Layer 7's reference: Same. -/
import Derived.Test.YtjonhhmapbibaaaDoorUPart
namespace Go.Proofs.YtjonhhmapbibaaaDoor
open Go.ChangeShapes Go.WideShapes Go.ChangeAt Go.RowKit Go.Joins Go.Deep Go.Shelf
set_option linter.unusedVariables false

/-- A list of lists of indices that is read. -/
def LL (W : World) (pa : Option Addr) (ls : List (List Nat)) : Prop := 0 < ls.length → ∃ g o, pa = some ⟨g, o, none⟩ ∧ g < W.heap.size ∧ ∀ i, i < ls.length → ∃ qa qc, W.cell? ⟨g, o + i, none⟩ = some (.slice qa (ls.getD i []).length qc) ∧ Idx W qa (ls.getD i [])
theorem LL.on {W W2 : World} {pa : Option Addr} {ls : List (List Nat)} (h : LL W pa ls) (hb : Below W.heap.size W W2) : LL W2 pa ls := fun hn => by
  obtain ⟨g, o, h1, h2, h3⟩ := h hn
  refine ⟨g, o, h1, Nat.lt_of_lt_of_le h2 hb.size, fun i hi => ?_⟩
  obtain ⟨qa, qc, h4, h5⟩ := h3 i hi
  exact ⟨qa, qc, (hb.cell (p := ⟨g, o + i, none⟩) h2).trans h4, h5.on hb⟩
theorem PL.ll {W : World} {base pc : Nat} {pa : Option Addr} {ls : List (List Nat)} {rows : List Value} (h : PL W base (.slice pa ls.length pc) ls rows) : LL W pa ls := fun hn => by
  rcases h.top.2 with ⟨_, h0⟩ | ⟨g, cap, cur, hv, hb, hg, hc, _⟩
  · omega
  · injection hv with e1 e2 e3
    subst e1
    refine ⟨g, 0, rfl, (Array.getElem?_eq_some_iff.1 hg).1, fun i hi => ?_⟩
    obtain ⟨qa, qc, h1, h2⟩ := h.row i hi
    refine ⟨qa, qc, ?_, own_idx h2⟩
    have := h.top.cells (g := g) (by rfl) i _ h1
    rwa [show (⟨g, 0, none⟩ : Addr).add i = ⟨g, 0 + i, none⟩ by unfold Addr.add; split <;> simp_all] at this
theorem lists_ne {α : Type} [Inhabited α] {ls ms : List α} (hl : ls.length = ms.length) (d : α) {i : Nat} (hi : i < ls.length) (h : ls.getD i d ≠ ms.getD i d) : ls ≠ ms := fun e => h (by rw [e])
theorem lists_eq {α : Type} {ls ms : List α} (hl : ls.length = ms.length) (d : α) (h : ∀ i, i < ls.length → ls.getD i d = ms.getD i d) : ls = ms := by
  refine List.ext_getElem hl fun i h1 h2 => ?_
  have := h i h1
  rw [List.getD_eq_getElem?_getD, List.getD_eq_getElem?_getD, List.getElem?_eq_getElem h1, List.getElem?_eq_getElem h2] at this
  exact this

structure SmaR (lg lo N lc mg mo mc j : Nat) (xa ya : Option Addr) (xn xc yn yc : Nat) (bl : Bool) (Wc : World) (L : Nat → Bool) (v : Nat → Value) (W : World) : Prop where
  st : Below Wc.heap.size Wc W
  w2 : Had L 2 (∀ j ∈ [0, 1], L j = true)
  w3 : Had L 3 (∀ j ∈ [2], L j = true)
  w6 : Had L 6 (∀ j ∈ [4, 5], L j = true)
  w7 : Had L 7 (∀ j ∈ [6], L j = true)
  w8 : Had L 8 (∀ j ∈ [3, 7], L j = true)
  w9 : Had L 9 (∀ j ∈ [8], L j = true)
  w10 : Had L 10 (∀ j ∈ [9], L j = true)
  w11 : Had L 11 (∀ j ∈ [9], L j = true)
  w12 : Had L 12 (∀ j ∈ [9, 10, 11], L j = true)
  w13 : Had L 13 (∀ j ∈ [9, 12], L j = true)
  w14 : Had L 14 (∀ j ∈ [9], L j = true)
  w15 : Had L 15 (∀ j ∈ [9], L j = true)
  w16 : Had L 16 (∀ j ∈ [9, 14, 15], L j = true)
  w17 : Had L 17 (∀ j ∈ [9, 16], L j = true)
  w18 : Had L 18 (∀ j ∈ [9, 13, 17], L j = true)
  w19 : Had L 19 (∀ j ∈ [9, 18], L j = true)
  f0 : Had L 0 (v 17 = .slice (some ⟨lg, lo, none⟩) (N) (lc))
  f1 : Had L 1 (v 18 = .int .i64 (j : Int))
  f2 : Had L 2 (v 19 = .pointer (some ⟨lg, lo + j, none⟩))
  f3 : Had L 3 (v 20 = .slice xa xn xc)
  f4 : Had L 4 (v 21 = .slice (some ⟨mg, mo, none⟩) (N) (mc))
  f5 : Had L 5 (v 22 = .int .i64 (j : Int))
  f6 : Had L 6 (v 23 = .pointer (some ⟨mg, mo + j, none⟩))
  f7 : Had L 7 (v 24 = .slice ya yn yc)
  f8 : Had L 8 (v 25 = .bool false)
  f9 : Had L 9 (v 26 = .bool false)
  f10 : Had L 10 (v 27 = .slice (some ⟨mg, mo, none⟩) (N) (mc))
  f11 : Had L 11 (v 28 = .int .i64 (j : Int))
  f12 : Had L 12 (v 29 = .pointer (some ⟨mg, mo + j, none⟩))
  f13 : Had L 13 (v 30 = .slice ya yn yc)
  f14 : Had L 14 (v 31 = .slice (some ⟨lg, lo, none⟩) (N) (lc))
  f15 : Had L 15 (v 32 = .int .i64 (j : Int))
  f16 : Had L 16 (v 33 = .pointer (some ⟨lg, lo + j, none⟩))
  f17 : Had L 17 (v 34 = .slice xa xn xc)
  f18 : Had L 18 (v 35 = .bool bl)
  f19 : Had L 19 (v 36 = .bool bl)
structure SmbR (lg lo N lc mg mo mc j : Nat) (xa ya : Option Addr) (xn xc yn yc : Nat) (bl : Bool) (Wc : World) (L : Nat → Bool) (v : Nat → Value) (W : World) : Prop where
  st : Below Wc.heap.size Wc W
  w2 : Had L 2 (∀ j ∈ [0, 1], L j = true)
  w3 : Had L 3 (∀ j ∈ [2], L j = true)
  w6 : Had L 6 (∀ j ∈ [4, 5], L j = true)
  w7 : Had L 7 (∀ j ∈ [6], L j = true)
  w8 : Had L 8 (∀ j ∈ [3, 7], L j = true)
  w9 : Had L 9 (∀ j ∈ [8], L j = true)
  w10 : Had L 10 (∀ j ∈ [9], L j = true)
  w11 : Had L 11 (∀ j ∈ [9], L j = true)
  w12 : Had L 12 (∀ j ∈ [9, 10, 11], L j = true)
  w13 : Had L 13 (∀ j ∈ [9, 12], L j = true)
  w14 : Had L 14 (∀ j ∈ [9], L j = true)
  w15 : Had L 15 (∀ j ∈ [9], L j = true)
  w16 : Had L 16 (∀ j ∈ [9, 14, 15], L j = true)
  w17 : Had L 17 (∀ j ∈ [9, 16], L j = true)
  w18 : Had L 18 (∀ j ∈ [9, 13, 17], L j = true)
  w19 : Had L 19 (∀ j ∈ [9, 18], L j = true)
  f0 : Had L 0 (v 17 = .slice (some ⟨lg, lo, none⟩) (N) (lc))
  f1 : Had L 1 (v 18 = .int .i64 (j : Int))
  f2 : Had L 2 (v 19 = .pointer (some ⟨lg, lo + j, none⟩))
  f3 : Had L 3 (v 20 = .slice xa xn xc)
  f4 : Had L 4 (v 21 = .slice (some ⟨mg, mo, none⟩) (N) (mc))
  f5 : Had L 5 (v 22 = .int .i64 (j : Int))
  f6 : Had L 6 (v 23 = .pointer (some ⟨mg, mo + j, none⟩))
  f7 : Had L 7 (v 24 = .slice ya yn yc)
  f8 : Had L 8 (v 25 = .bool true)
  f9 : Had L 9 (v 26 = .bool true)
  f10 : Had L 10 (v 27 = undef)
  f11 : Had L 11 (v 28 = undef)
  f12 : Had L 12 (v 29 = undef)
  f13 : Had L 13 (v 30 = undef)
  f14 : Had L 14 (v 31 = undef)
  f15 : Had L 15 (v 32 = undef)
  f16 : Had L 16 (v 33 = undef)
  f17 : Had L 17 (v 34 = undef)
  f18 : Had L 18 (v 35 = undef)
  f19 : Had L 19 (v 36 = .bool true)
set_option maxRecDepth 100000 in
set_option maxHeartbeats 8000000 in
theorem Same_any (la : Option Addr) (lc : Nat) (ls : List (List Nat)) (ma : Option Addr) (mc : Nat) (ms : List (List Nat)) (w : World) (hl : LL w la ls) (hm : LL w ma ms) (n1 : ls.length ≤ 1000000) (n2 : ms.length ≤ 1000000) (hb1 : ∀ l ∈ ls, l.length ≤ 1000) (hb2 : ∀ l ∈ ms, l.length ≤ 1000) :
    Calls Tryd.prog 13 #[.slice la ls.length lc, .slice ma ms.length mc] w fun e w' => e = .returned (.bool (decide (ls = ms))) ∧ Below w.heap.size w w' := by
  by_cases hlen : ls.length = ms.length
  · have HL := Lib.hid hl
    have HM := Lib.hid hm
    have HB1 : Hid (∀ i, i < ls.length → (ls.getD i []).length ≤ 1000) := fun i hi => hb1 _ (by rw [List.getD_eq_getElem?_getD, List.getElem?_eq_getElem hi]; exact List.getElem_mem hi)
    have HB2 : Hid (∀ i, i < ls.length → (ms.getD i []).length ≤ 1000) := fun i hi => hb2 _ (by rw [List.getD_eq_getElem?_getD, List.getElem?_eq_getElem (by omega)]; exact List.getElem_mem (by omega))
    have HLEN := Lib.hid hlen
    have S0 : Hid ((∀ j, j < 0 → ls.getD j [] = ms.getD j []) ∧ Below w.heap.size w w) := ⟨fun j hj => by omega, Below.refl _ _⟩
    rw [← hlen]
    obtain ⟨N, hN⟩ : ∃ N, N = ls.length := ⟨_, rfl⟩
    rw [← hN] at n1 ⊢
    have HN := Lib.hid hN
    clear hl hm hN hlen hb1 hb2 n2
    go_enter Tryd.func13, Tryd.ntmps13
    go_wp2_with fail
    go_loopg [5] N (fun g s5 wx => ∃ j : Nat, s5 = .int .i64 j ∧ g = N - j ∧ j ≤ N ∧ Hid ((∀ i, i < j → ls.getD i [] = ms.getD i []) ∧ Below w.heap.size w wx))
    case atStart => exact ⟨0, rfl, rfl, Nat.zero_le _, S0⟩
    case round =>
      clear S0
      obtain ⟨j, rfl, rfl, hj, S⟩ := hrel
      rename World => W1
      by_cases hlt : j < N
      · have wk : IntKind.i64.wrap ((j : Int) + 1) = ((j + 1 : Nat) : Int) := by rw [IntWalk.i64_in _ (by omega)]; omega
        have l1 : (j : Int) < (N : Int) := by omega
        obtain ⟨lg, lo, rfl, hlg, hlc⟩ := (HL.out.on S.out.2) (by rw [← HN.out]; omega)
        obtain ⟨mg, mo, rfl, hmg, hmc⟩ := (HM.out.on S.out.2) (by rw [← HLEN.out, ← HN.out]; omega)
        obtain ⟨xa, xc, hx1, hx2⟩ := hlc j (by rw [← HN.out]; omega)
        obtain ⟨ya, yc, hy1, hy2⟩ := hmc j (by rw [← HLEN.out, ← HN.out]; omega)
        have b1 := HB1.out j (by rw [← HN.out]; omega)
        have b2 := HB2.out j (by rw [← HN.out]; omega)
        have HNE := Lib.hid (fun h => lists_ne (ls := ls) (ms := ms) HLEN.out [] (i := j) (by rw [← HN.out]; omega) h)
        obtain ⟨x, hx⟩ : ∃ x, ls.getD j [] = x := ⟨_, rfl⟩
        obtain ⟨y, hy⟩ : ∃ y, ms.getD j [] = y := ⟨_, rfl⟩
        rw [hx] at hx1 hx2 b1 HNE
        rw [hy] at hy1 hy2 b2 HNE
        have LX : Hid (W1.cell? ⟨lg, lo + j, none⟩ = some (.slice xa x.length xc) ∧ lg < W1.heap.size) := ⟨hx1, hlg⟩
        have LY : Hid (W1.cell? ⟨mg, mo + j, none⟩ = some (.slice ya y.length yc) ∧ mg < W1.heap.size) := ⟨hy1, hmg⟩
        have C1 := fun W (h : Below W1.heap.size W1 W) => Lib.hid (Earlier_any xa xc x ya yc y W (hx2.on h) (hy2.on h) b1 b2)
        have C2 := fun W (h : Below W1.heap.size W1 W) => Lib.hid (Earlier_any ya yc y xa xc x W (hy2.on h) (hx2.on h) b2 b1)
        have HXY := Lib.hid (And.intro hx hy)
        have HE : Hid (earl x y = false → earl y x = false → x = y) := fun h1 h2 => Classical.byContradiction fun h => by
          rcases earl_tot h with e | e
          · rw [e] at h1; cases h1
          · rw [e] at h2; cases h2
        have HE2 : Hid (earl x y = true → x ≠ y) := fun h1 h => by rw [h, earl_irr] at h1; cases h1
        have HE3 : Hid (earl y x = true → x ≠ y) := fun h1 h => by rw [h, earl_irr] at h1; cases h1
        clear hx1 hx2 hy1 hy2 hlg hlc hmg hmc b1 b2 hx hy
        cases h1 : earl x y with
        | true =>
          have HF : Hid (ls ≠ ms) := HNE.out (HE2.out h1)
          rw [h1] at C1
          clear h1 HE HE2 HE3 HNE
          go_upto_region 6 with fail
          refine wp_region_each (fun L A W => ∃ (v : Nat → Value), A = ⟨#[_, _, _, _, _, _, _, _, _, _, _, _, _, _, _, _, _, v 17, v 18, v 19, v 20, v 21, v 22, v 23, v 24, v 25, v 26, v 27, v 28, v 29, v 30, v 31, v 32, v 33, v 34, v 35, v 36], []⟩ ∧ SmbR lg lo N lc mg mo mc j xa ya x.length xc y.length yc true W1 L v W) (by kernel_rfl) (by kernel_rfl) ⟨fun jz => if jz = 17 then u17 else if jz = 18 then u18 else if jz = 19 then u19 else if jz = 20 then u20 else if jz = 21 then u21 else if jz = 22 then u22 else if jz = 23 then u23 else if jz = 24 then u24 else if jz = 25 then u25 else if jz = 26 then u26 else if jz = 27 then u27 else if jz = 28 then u28 else if jz = 29 then u29 else if jz = 30 then u30 else if jz = 31 then u31 else if jz = 32 then u32 else if jz = 33 then u33 else if jz = 34 then u34 else if jz = 35 then u35 else if jz = 36 then u36 else undef, rfl, ⟨Below.drew (Below.refl _ _), Had.none, Had.none, Had.none, Had.none, Had.none, Had.none, Had.none, Had.none, Had.none, Had.none, Had.none, Had.none, Had.none, Had.none, Had.none, Had.none, Had.none, Had.none, Had.none, Had.none, Had.none, Had.none, Had.none, Had.none, Had.none, Had.none, Had.none, Had.none, Had.none, Had.none, Had.none, Had.none, Had.none, Had.none, Had.none, Had.none⟩⟩ (rs := [0, 1, 2, 3, 4, 5, 6, 7, 8, 9, 10, 11, 12, 13, 14, 15, 16, 17, 18, 19]) (by kernel_rfl) ?_ ?_
          · refine EachOf.cons [] rfl (by kernel_rfl) ?_ ?_
            · rintro L A W ⟨v, rfl, hR⟩ hi hw K hK
              go_simp
              refine hK.out _ _ ?_
              exact ⟨(fun jz => if jz = 17 then .slice (some ⟨lg, lo, none⟩) (N) (lc) else v jz), rfl, ⟨hR.st, hR.w2.o, hR.w3.o, hR.w6.o, hR.w7.o, hR.w8.o, hR.w9.o, hR.w10.o, hR.w11.o, hR.w12.o, hR.w13.o, hR.w14.o, hR.w15.o, hR.w16.o, hR.w17.o, hR.w18.o, hR.w19.o, (fun _ => rfl), hR.f1.k, hR.f2.k, hR.f3.k, hR.f4.k, hR.f5.k, hR.f6.k, hR.f7.k, hR.f8.k, hR.f9.k, hR.f10.k, hR.f11.k, hR.f12.k, hR.f13.k, hR.f14.k, hR.f15.k, hR.f16.k, hR.f17.k, hR.f18.k, hR.f19.k⟩⟩
            refine EachOf.cons [] rfl (by kernel_rfl) ?_ ?_
            · rintro L A W ⟨v, rfl, hR⟩ hi hw K hK
              go_simp
              refine hK.out _ _ ?_
              exact ⟨(fun jz => if jz = 18 then .int .i64 (j : Int) else v jz), rfl, ⟨hR.st, hR.w2.o, hR.w3.o, hR.w6.o, hR.w7.o, hR.w8.o, hR.w9.o, hR.w10.o, hR.w11.o, hR.w12.o, hR.w13.o, hR.w14.o, hR.w15.o, hR.w16.o, hR.w17.o, hR.w18.o, hR.w19.o, hR.f0.k, (fun _ => rfl), hR.f2.k, hR.f3.k, hR.f4.k, hR.f5.k, hR.f6.k, hR.f7.k, hR.f8.k, hR.f9.k, hR.f10.k, hR.f11.k, hR.f12.k, hR.f13.k, hR.f14.k, hR.f15.k, hR.f16.k, hR.f17.k, hR.f18.k, hR.f19.k⟩⟩
            refine EachOf.cons [0, 1] rfl (by kernel_rfl) ?_ ?_
            · rintro L A W ⟨v, rfl, hR⟩ hi hw K hK
              have e0 := hR.f0 (hw 0 (by simp))
              have e1 := hR.f1 (hw 1 (by simp))
              simp only [e0, e1]
              clear e0 e1
              go_simp
              refine hK.out _ _ ?_
              exact ⟨(fun jz => if jz = 17 then .slice (some ⟨lg, lo, none⟩) (N) (lc) else if jz = 18 then .int .i64 (j : Int) else if jz = 19 then .pointer (some ⟨lg, lo + j, none⟩) else v jz), rfl, ⟨hR.st, (fun _ j hj => upd_on (hw j hj)), hR.w3.o, hR.w6.o, hR.w7.o, hR.w8.o, hR.w9.o, hR.w10.o, hR.w11.o, hR.w12.o, hR.w13.o, hR.w14.o, hR.w15.o, hR.w16.o, hR.w17.o, hR.w18.o, hR.w19.o, (fun _ => rfl), (fun _ => rfl), (fun _ => rfl), hR.f3.k, hR.f4.k, hR.f5.k, hR.f6.k, hR.f7.k, hR.f8.k, hR.f9.k, hR.f10.k, hR.f11.k, hR.f12.k, hR.f13.k, hR.f14.k, hR.f15.k, hR.f16.k, hR.f17.k, hR.f18.k, hR.f19.k⟩⟩
            refine EachOf.cons [2] rfl (by kernel_rfl) ?_ ?_
            · rintro L A W ⟨v, rfl, hR⟩ hi hw K hK
              have e2 := hR.f2 (hw 2 (by simp))
              simp only [e2]
              clear e2
              have q0 := (hR.st.cell (p := ⟨lg, lo + j, none⟩) LX.out.2).trans LX.out.1
              go_simp
              refine hK.out _ _ ?_
              exact ⟨(fun jz => if jz = 19 then .pointer (some ⟨lg, lo + j, none⟩) else if jz = 20 then .slice xa x.length xc else v jz), rfl, ⟨hR.st, hR.w2.o, (fun _ j hj => upd_on (hw j hj)), hR.w6.o, hR.w7.o, hR.w8.o, hR.w9.o, hR.w10.o, hR.w11.o, hR.w12.o, hR.w13.o, hR.w14.o, hR.w15.o, hR.w16.o, hR.w17.o, hR.w18.o, hR.w19.o, hR.f0.k, hR.f1.k, (fun _ => rfl), (fun _ => rfl), hR.f4.k, hR.f5.k, hR.f6.k, hR.f7.k, hR.f8.k, hR.f9.k, hR.f10.k, hR.f11.k, hR.f12.k, hR.f13.k, hR.f14.k, hR.f15.k, hR.f16.k, hR.f17.k, hR.f18.k, hR.f19.k⟩⟩
            refine EachOf.cons [] rfl (by kernel_rfl) ?_ ?_
            · rintro L A W ⟨v, rfl, hR⟩ hi hw K hK
              go_simp
              refine hK.out _ _ ?_
              exact ⟨(fun jz => if jz = 21 then .slice (some ⟨mg, mo, none⟩) (N) (mc) else v jz), rfl, ⟨hR.st, hR.w2.o, hR.w3.o, hR.w6.o, hR.w7.o, hR.w8.o, hR.w9.o, hR.w10.o, hR.w11.o, hR.w12.o, hR.w13.o, hR.w14.o, hR.w15.o, hR.w16.o, hR.w17.o, hR.w18.o, hR.w19.o, hR.f0.k, hR.f1.k, hR.f2.k, hR.f3.k, (fun _ => rfl), hR.f5.k, hR.f6.k, hR.f7.k, hR.f8.k, hR.f9.k, hR.f10.k, hR.f11.k, hR.f12.k, hR.f13.k, hR.f14.k, hR.f15.k, hR.f16.k, hR.f17.k, hR.f18.k, hR.f19.k⟩⟩
            refine EachOf.cons [] rfl (by kernel_rfl) ?_ ?_
            · rintro L A W ⟨v, rfl, hR⟩ hi hw K hK
              go_simp
              refine hK.out _ _ ?_
              exact ⟨(fun jz => if jz = 22 then .int .i64 (j : Int) else v jz), rfl, ⟨hR.st, hR.w2.o, hR.w3.o, hR.w6.o, hR.w7.o, hR.w8.o, hR.w9.o, hR.w10.o, hR.w11.o, hR.w12.o, hR.w13.o, hR.w14.o, hR.w15.o, hR.w16.o, hR.w17.o, hR.w18.o, hR.w19.o, hR.f0.k, hR.f1.k, hR.f2.k, hR.f3.k, hR.f4.k, (fun _ => rfl), hR.f6.k, hR.f7.k, hR.f8.k, hR.f9.k, hR.f10.k, hR.f11.k, hR.f12.k, hR.f13.k, hR.f14.k, hR.f15.k, hR.f16.k, hR.f17.k, hR.f18.k, hR.f19.k⟩⟩
            refine EachOf.cons [4, 5] rfl (by kernel_rfl) ?_ ?_
            · rintro L A W ⟨v, rfl, hR⟩ hi hw K hK
              have e4 := hR.f4 (hw 4 (by simp))
              have e5 := hR.f5 (hw 5 (by simp))
              simp only [e4, e5]
              clear e4 e5
              go_simp
              refine hK.out _ _ ?_
              exact ⟨(fun jz => if jz = 21 then .slice (some ⟨mg, mo, none⟩) (N) (mc) else if jz = 22 then .int .i64 (j : Int) else if jz = 23 then .pointer (some ⟨mg, mo + j, none⟩) else v jz), rfl, ⟨hR.st, hR.w2.o, hR.w3.o, (fun _ j hj => upd_on (hw j hj)), hR.w7.o, hR.w8.o, hR.w9.o, hR.w10.o, hR.w11.o, hR.w12.o, hR.w13.o, hR.w14.o, hR.w15.o, hR.w16.o, hR.w17.o, hR.w18.o, hR.w19.o, hR.f0.k, hR.f1.k, hR.f2.k, hR.f3.k, (fun _ => rfl), (fun _ => rfl), (fun _ => rfl), hR.f7.k, hR.f8.k, hR.f9.k, hR.f10.k, hR.f11.k, hR.f12.k, hR.f13.k, hR.f14.k, hR.f15.k, hR.f16.k, hR.f17.k, hR.f18.k, hR.f19.k⟩⟩
            refine EachOf.cons [6] rfl (by kernel_rfl) ?_ ?_
            · rintro L A W ⟨v, rfl, hR⟩ hi hw K hK
              have e6 := hR.f6 (hw 6 (by simp))
              simp only [e6]
              clear e6
              have q0 := (hR.st.cell (p := ⟨mg, mo + j, none⟩) LY.out.2).trans LY.out.1
              go_simp
              refine hK.out _ _ ?_
              exact ⟨(fun jz => if jz = 23 then .pointer (some ⟨mg, mo + j, none⟩) else if jz = 24 then .slice ya y.length yc else v jz), rfl, ⟨hR.st, hR.w2.o, hR.w3.o, hR.w6.o, (fun _ j hj => upd_on (hw j hj)), hR.w8.o, hR.w9.o, hR.w10.o, hR.w11.o, hR.w12.o, hR.w13.o, hR.w14.o, hR.w15.o, hR.w16.o, hR.w17.o, hR.w18.o, hR.w19.o, hR.f0.k, hR.f1.k, hR.f2.k, hR.f3.k, hR.f4.k, hR.f5.k, (fun _ => rfl), (fun _ => rfl), hR.f8.k, hR.f9.k, hR.f10.k, hR.f11.k, hR.f12.k, hR.f13.k, hR.f14.k, hR.f15.k, hR.f16.k, hR.f17.k, hR.f18.k, hR.f19.k⟩⟩
            refine EachOf.cons [3, 7] rfl (by kernel_rfl) ?_ ?_
            · rintro L A W ⟨v, rfl, hR⟩ hi hw K hK
              have e3 := hR.f3 (hw 3 (by simp))
              have e7 := hR.f7 (hw 7 (by simp))
              simp only [e3, e7]
              clear e3 e7
              go_simp
              go_at_call 30
              (with_reducible refine ((C1 _ hR.st).out).mono ?_)
              rintro e w2 ⟨rfl, hb⟩
              go_simp
              refine hK.out _ _ ?_
              exact ⟨(fun jz => if jz = 20 then .slice xa x.length xc else if jz = 24 then .slice ya y.length yc else if jz = 25 then .bool true else v jz), rfl, ⟨below_on hR.st hb, hR.w2.o, hR.w3.o, hR.w6.o, hR.w7.o, (fun _ j hj => upd_on (hw j hj)), hR.w9.o, hR.w10.o, hR.w11.o, hR.w12.o, hR.w13.o, hR.w14.o, hR.w15.o, hR.w16.o, hR.w17.o, hR.w18.o, hR.w19.o, hR.f0.k, hR.f1.k, hR.f2.k, (fun _ => rfl), hR.f4.k, hR.f5.k, hR.f6.k, (fun _ => rfl), (fun _ => rfl), hR.f9.k, hR.f10.k, hR.f11.k, hR.f12.k, hR.f13.k, hR.f14.k, hR.f15.k, hR.f16.k, hR.f17.k, hR.f18.k, hR.f19.k⟩⟩
            refine EachOf.cons [8] rfl (by kernel_rfl) ?_ ?_
            · rintro L A W ⟨v, rfl, hR⟩ hi hw K hK
              have e8 := hR.f8 (hw 8 (by simp))
              simp only [e8]
              clear e8
              go_simp
              refine hK.out _ _ ?_
              exact ⟨(fun jz => if jz = 25 then .bool true else if jz = 26 then .bool true else v jz), rfl, ⟨hR.st, hR.w2.o, hR.w3.o, hR.w6.o, hR.w7.o, hR.w8.o, (fun _ j hj => upd_on (hw j hj)), hR.w10.o, hR.w11.o, hR.w12.o, hR.w13.o, hR.w14.o, hR.w15.o, hR.w16.o, hR.w17.o, hR.w18.o, hR.w19.o, hR.f0.k, hR.f1.k, hR.f2.k, hR.f3.k, hR.f4.k, hR.f5.k, hR.f6.k, hR.f7.k, (fun _ => rfl), (fun _ => rfl), hR.f10.k, hR.f11.k, hR.f12.k, hR.f13.k, hR.f14.k, hR.f15.k, hR.f16.k, hR.f17.k, hR.f18.k, hR.f19.k⟩⟩
            refine EachOf.cons [9] rfl (by kernel_rfl) ?_ ?_
            · rintro L A W ⟨v, rfl, hR⟩ hi hw K hK
              have e9 := hR.f9 (hw 9 (by simp))
              simp only [e9]
              clear e9
              go_simp
              refine hK.out _ _ ?_
              exact ⟨(fun jz => if jz = 26 then .bool true else if jz = 27 then undef else v jz), rfl, ⟨hR.st, hR.w2.o, hR.w3.o, hR.w6.o, hR.w7.o, hR.w8.o, hR.w9.o, (fun _ j hj => upd_on (hw j hj)), hR.w11.o, hR.w12.o, hR.w13.o, hR.w14.o, hR.w15.o, hR.w16.o, hR.w17.o, hR.w18.o, hR.w19.o, hR.f0.k, hR.f1.k, hR.f2.k, hR.f3.k, hR.f4.k, hR.f5.k, hR.f6.k, hR.f7.k, hR.f8.k, (fun _ => rfl), (fun _ => rfl), hR.f11.k, hR.f12.k, hR.f13.k, hR.f14.k, hR.f15.k, hR.f16.k, hR.f17.k, hR.f18.k, hR.f19.k⟩⟩
            refine EachOf.cons [9] rfl (by kernel_rfl) ?_ ?_
            · rintro L A W ⟨v, rfl, hR⟩ hi hw K hK
              have e9 := hR.f9 (hw 9 (by simp))
              simp only [e9]
              clear e9
              go_simp
              refine hK.out _ _ ?_
              exact ⟨(fun jz => if jz = 26 then .bool true else if jz = 28 then undef else v jz), rfl, ⟨hR.st, hR.w2.o, hR.w3.o, hR.w6.o, hR.w7.o, hR.w8.o, hR.w9.o, hR.w10.o, (fun _ j hj => upd_on (hw j hj)), hR.w12.o, hR.w13.o, hR.w14.o, hR.w15.o, hR.w16.o, hR.w17.o, hR.w18.o, hR.w19.o, hR.f0.k, hR.f1.k, hR.f2.k, hR.f3.k, hR.f4.k, hR.f5.k, hR.f6.k, hR.f7.k, hR.f8.k, (fun _ => rfl), hR.f10.k, (fun _ => rfl), hR.f12.k, hR.f13.k, hR.f14.k, hR.f15.k, hR.f16.k, hR.f17.k, hR.f18.k, hR.f19.k⟩⟩
            refine EachOf.cons [9, 10, 11] rfl (by kernel_rfl) ?_ ?_
            · rintro L A W ⟨v, rfl, hR⟩ hi hw K hK
              have e10 := hR.f10 (hw 10 (by simp))
              have e11 := hR.f11 (hw 11 (by simp))
              have e9 := hR.f9 (hw 9 (by simp))
              simp only [e10, e11, e9]
              clear e10 e11 e9
              go_simp
              refine hK.out _ _ ?_
              exact ⟨(fun jz => if jz = 27 then undef else if jz = 28 then undef else if jz = 26 then .bool true else if jz = 29 then undef else v jz), rfl, ⟨hR.st, hR.w2.o, hR.w3.o, hR.w6.o, hR.w7.o, hR.w8.o, hR.w9.o, hR.w10.o, hR.w11.o, (fun _ j hj => upd_on (hw j hj)), hR.w13.o, hR.w14.o, hR.w15.o, hR.w16.o, hR.w17.o, hR.w18.o, hR.w19.o, hR.f0.k, hR.f1.k, hR.f2.k, hR.f3.k, hR.f4.k, hR.f5.k, hR.f6.k, hR.f7.k, hR.f8.k, (fun _ => rfl), (fun _ => rfl), (fun _ => rfl), (fun _ => rfl), hR.f13.k, hR.f14.k, hR.f15.k, hR.f16.k, hR.f17.k, hR.f18.k, hR.f19.k⟩⟩
            refine EachOf.cons [9, 12] rfl (by kernel_rfl) ?_ ?_
            · rintro L A W ⟨v, rfl, hR⟩ hi hw K hK
              have e12 := hR.f12 (hw 12 (by simp))
              have e9 := hR.f9 (hw 9 (by simp))
              simp only [e12, e9]
              clear e12 e9
              go_simp
              refine hK.out _ _ ?_
              exact ⟨(fun jz => if jz = 29 then undef else if jz = 26 then .bool true else if jz = 30 then undef else v jz), rfl, ⟨hR.st, hR.w2.o, hR.w3.o, hR.w6.o, hR.w7.o, hR.w8.o, hR.w9.o, hR.w10.o, hR.w11.o, hR.w12.o, (fun _ j hj => upd_on (hw j hj)), hR.w14.o, hR.w15.o, hR.w16.o, hR.w17.o, hR.w18.o, hR.w19.o, hR.f0.k, hR.f1.k, hR.f2.k, hR.f3.k, hR.f4.k, hR.f5.k, hR.f6.k, hR.f7.k, hR.f8.k, (fun _ => rfl), hR.f10.k, hR.f11.k, (fun _ => rfl), (fun _ => rfl), hR.f14.k, hR.f15.k, hR.f16.k, hR.f17.k, hR.f18.k, hR.f19.k⟩⟩
            refine EachOf.cons [9] rfl (by kernel_rfl) ?_ ?_
            · rintro L A W ⟨v, rfl, hR⟩ hi hw K hK
              have e9 := hR.f9 (hw 9 (by simp))
              simp only [e9]
              clear e9
              go_simp
              refine hK.out _ _ ?_
              exact ⟨(fun jz => if jz = 26 then .bool true else if jz = 31 then undef else v jz), rfl, ⟨hR.st, hR.w2.o, hR.w3.o, hR.w6.o, hR.w7.o, hR.w8.o, hR.w9.o, hR.w10.o, hR.w11.o, hR.w12.o, hR.w13.o, (fun _ j hj => upd_on (hw j hj)), hR.w15.o, hR.w16.o, hR.w17.o, hR.w18.o, hR.w19.o, hR.f0.k, hR.f1.k, hR.f2.k, hR.f3.k, hR.f4.k, hR.f5.k, hR.f6.k, hR.f7.k, hR.f8.k, (fun _ => rfl), hR.f10.k, hR.f11.k, hR.f12.k, hR.f13.k, (fun _ => rfl), hR.f15.k, hR.f16.k, hR.f17.k, hR.f18.k, hR.f19.k⟩⟩
            refine EachOf.cons [9] rfl (by kernel_rfl) ?_ ?_
            · rintro L A W ⟨v, rfl, hR⟩ hi hw K hK
              have e9 := hR.f9 (hw 9 (by simp))
              simp only [e9]
              clear e9
              go_simp
              refine hK.out _ _ ?_
              exact ⟨(fun jz => if jz = 26 then .bool true else if jz = 32 then undef else v jz), rfl, ⟨hR.st, hR.w2.o, hR.w3.o, hR.w6.o, hR.w7.o, hR.w8.o, hR.w9.o, hR.w10.o, hR.w11.o, hR.w12.o, hR.w13.o, hR.w14.o, (fun _ j hj => upd_on (hw j hj)), hR.w16.o, hR.w17.o, hR.w18.o, hR.w19.o, hR.f0.k, hR.f1.k, hR.f2.k, hR.f3.k, hR.f4.k, hR.f5.k, hR.f6.k, hR.f7.k, hR.f8.k, (fun _ => rfl), hR.f10.k, hR.f11.k, hR.f12.k, hR.f13.k, hR.f14.k, (fun _ => rfl), hR.f16.k, hR.f17.k, hR.f18.k, hR.f19.k⟩⟩
            refine EachOf.cons [9, 14, 15] rfl (by kernel_rfl) ?_ ?_
            · rintro L A W ⟨v, rfl, hR⟩ hi hw K hK
              have e14 := hR.f14 (hw 14 (by simp))
              have e15 := hR.f15 (hw 15 (by simp))
              have e9 := hR.f9 (hw 9 (by simp))
              simp only [e14, e15, e9]
              clear e14 e15 e9
              go_simp
              refine hK.out _ _ ?_
              exact ⟨(fun jz => if jz = 31 then undef else if jz = 32 then undef else if jz = 26 then .bool true else if jz = 33 then undef else v jz), rfl, ⟨hR.st, hR.w2.o, hR.w3.o, hR.w6.o, hR.w7.o, hR.w8.o, hR.w9.o, hR.w10.o, hR.w11.o, hR.w12.o, hR.w13.o, hR.w14.o, hR.w15.o, (fun _ j hj => upd_on (hw j hj)), hR.w17.o, hR.w18.o, hR.w19.o, hR.f0.k, hR.f1.k, hR.f2.k, hR.f3.k, hR.f4.k, hR.f5.k, hR.f6.k, hR.f7.k, hR.f8.k, (fun _ => rfl), hR.f10.k, hR.f11.k, hR.f12.k, hR.f13.k, (fun _ => rfl), (fun _ => rfl), (fun _ => rfl), hR.f17.k, hR.f18.k, hR.f19.k⟩⟩
            refine EachOf.cons [9, 16] rfl (by kernel_rfl) ?_ ?_
            · rintro L A W ⟨v, rfl, hR⟩ hi hw K hK
              have e16 := hR.f16 (hw 16 (by simp))
              have e9 := hR.f9 (hw 9 (by simp))
              simp only [e16, e9]
              clear e16 e9
              go_simp
              refine hK.out _ _ ?_
              exact ⟨(fun jz => if jz = 33 then undef else if jz = 26 then .bool true else if jz = 34 then undef else v jz), rfl, ⟨hR.st, hR.w2.o, hR.w3.o, hR.w6.o, hR.w7.o, hR.w8.o, hR.w9.o, hR.w10.o, hR.w11.o, hR.w12.o, hR.w13.o, hR.w14.o, hR.w15.o, hR.w16.o, (fun _ j hj => upd_on (hw j hj)), hR.w18.o, hR.w19.o, hR.f0.k, hR.f1.k, hR.f2.k, hR.f3.k, hR.f4.k, hR.f5.k, hR.f6.k, hR.f7.k, hR.f8.k, (fun _ => rfl), hR.f10.k, hR.f11.k, hR.f12.k, hR.f13.k, hR.f14.k, hR.f15.k, (fun _ => rfl), (fun _ => rfl), hR.f18.k, hR.f19.k⟩⟩
            refine EachOf.cons [9, 13, 17] rfl (by kernel_rfl) ?_ ?_
            · rintro L A W ⟨v, rfl, hR⟩ hi hw K hK
              have e13 := hR.f13 (hw 13 (by simp))
              have e17 := hR.f17 (hw 17 (by simp))
              have e9 := hR.f9 (hw 9 (by simp))
              simp only [e13, e17, e9]
              clear e13 e17 e9
              go_simp
              refine hK.out _ _ ?_
              exact ⟨(fun jz => if jz = 30 then undef else if jz = 34 then undef else if jz = 26 then .bool true else if jz = 35 then undef else v jz), rfl, ⟨hR.st, hR.w2.o, hR.w3.o, hR.w6.o, hR.w7.o, hR.w8.o, hR.w9.o, hR.w10.o, hR.w11.o, hR.w12.o, hR.w13.o, hR.w14.o, hR.w15.o, hR.w16.o, hR.w17.o, (fun _ j hj => upd_on (hw j hj)), hR.w19.o, hR.f0.k, hR.f1.k, hR.f2.k, hR.f3.k, hR.f4.k, hR.f5.k, hR.f6.k, hR.f7.k, hR.f8.k, (fun _ => rfl), hR.f10.k, hR.f11.k, hR.f12.k, (fun _ => rfl), hR.f14.k, hR.f15.k, hR.f16.k, (fun _ => rfl), (fun _ => rfl), hR.f19.k⟩⟩
            refine EachOf.cons [9, 18] rfl (by kernel_rfl) ?_ ?_
            · rintro L A W ⟨v, rfl, hR⟩ hi hw K hK
              have e9 := hR.f9 (hw 9 (by simp))
              have e18 := hR.f18 (hw 18 (by simp))
              simp only [e9, e18]
              clear e9 e18
              go_simp
              refine hK.out _ _ ?_
              exact ⟨(fun jz => if jz = 26 then .bool true else if jz = 35 then undef else if jz = 36 then .bool true else v jz), rfl, ⟨hR.st, hR.w2.o, hR.w3.o, hR.w6.o, hR.w7.o, hR.w8.o, hR.w9.o, hR.w10.o, hR.w11.o, hR.w12.o, hR.w13.o, hR.w14.o, hR.w15.o, hR.w16.o, hR.w17.o, hR.w18.o, (fun _ j hj => upd_on (hw j hj)), hR.f0.k, hR.f1.k, hR.f2.k, hR.f3.k, hR.f4.k, hR.f5.k, hR.f6.k, hR.f7.k, hR.f8.k, (fun _ => rfl), hR.f10.k, hR.f11.k, hR.f12.k, hR.f13.k, hR.f14.k, hR.f15.k, hR.f16.k, hR.f17.k, (fun _ => rfl), (fun _ => rfl)⟩⟩
            exact EachOf.nil
          rintro L A W ⟨v, rfl, hR⟩ hL
          have hst := hR.st
          have e19 := hR.f19 (hL 19 (by simp))
          simp only [e19]
          have T := Lib.hid (below_on S.out.2 hst)
          clear e19 hst hR hL LX LY S
          go_wp2_with fail
          go_ret
          exact ⟨by rw [decide_eq_false HF.out]; rfl, T.out⟩
        | false =>
          cases h2 : earl y x with
          | true =>
            have HF : Hid (ls ≠ ms) := HNE.out (HE3.out h2)
            rw [h1] at C1
            rw [h2] at C2
            clear h1 h2 HE HE2 HE3 HNE
            go_upto_region 6 with fail
            refine wp_region_each (fun L A W => ∃ (v : Nat → Value), A = ⟨#[_, _, _, _, _, _, _, _, _, _, _, _, _, _, _, _, _, v 17, v 18, v 19, v 20, v 21, v 22, v 23, v 24, v 25, v 26, v 27, v 28, v 29, v 30, v 31, v 32, v 33, v 34, v 35, v 36], []⟩ ∧ SmaR lg lo N lc mg mo mc j xa ya x.length xc y.length yc true W1 L v W) (by kernel_rfl) (by kernel_rfl) ⟨fun jz => if jz = 17 then u17 else if jz = 18 then u18 else if jz = 19 then u19 else if jz = 20 then u20 else if jz = 21 then u21 else if jz = 22 then u22 else if jz = 23 then u23 else if jz = 24 then u24 else if jz = 25 then u25 else if jz = 26 then u26 else if jz = 27 then u27 else if jz = 28 then u28 else if jz = 29 then u29 else if jz = 30 then u30 else if jz = 31 then u31 else if jz = 32 then u32 else if jz = 33 then u33 else if jz = 34 then u34 else if jz = 35 then u35 else if jz = 36 then u36 else undef, rfl, ⟨Below.drew (Below.refl _ _), Had.none, Had.none, Had.none, Had.none, Had.none, Had.none, Had.none, Had.none, Had.none, Had.none, Had.none, Had.none, Had.none, Had.none, Had.none, Had.none, Had.none, Had.none, Had.none, Had.none, Had.none, Had.none, Had.none, Had.none, Had.none, Had.none, Had.none, Had.none, Had.none, Had.none, Had.none, Had.none, Had.none, Had.none, Had.none, Had.none⟩⟩ (rs := [0, 1, 2, 3, 4, 5, 6, 7, 8, 9, 10, 11, 12, 13, 14, 15, 16, 17, 18, 19]) (by kernel_rfl) ?_ ?_
            · refine EachOf.cons [] rfl (by kernel_rfl) ?_ ?_
              · rintro L A W ⟨v, rfl, hR⟩ hi hw K hK
                go_simp
                refine hK.out _ _ ?_
                exact ⟨(fun jz => if jz = 17 then .slice (some ⟨lg, lo, none⟩) (N) (lc) else v jz), rfl, ⟨hR.st, hR.w2.o, hR.w3.o, hR.w6.o, hR.w7.o, hR.w8.o, hR.w9.o, hR.w10.o, hR.w11.o, hR.w12.o, hR.w13.o, hR.w14.o, hR.w15.o, hR.w16.o, hR.w17.o, hR.w18.o, hR.w19.o, (fun _ => rfl), hR.f1.k, hR.f2.k, hR.f3.k, hR.f4.k, hR.f5.k, hR.f6.k, hR.f7.k, hR.f8.k, hR.f9.k, hR.f10.k, hR.f11.k, hR.f12.k, hR.f13.k, hR.f14.k, hR.f15.k, hR.f16.k, hR.f17.k, hR.f18.k, hR.f19.k⟩⟩
              refine EachOf.cons [] rfl (by kernel_rfl) ?_ ?_
              · rintro L A W ⟨v, rfl, hR⟩ hi hw K hK
                go_simp
                refine hK.out _ _ ?_
                exact ⟨(fun jz => if jz = 18 then .int .i64 (j : Int) else v jz), rfl, ⟨hR.st, hR.w2.o, hR.w3.o, hR.w6.o, hR.w7.o, hR.w8.o, hR.w9.o, hR.w10.o, hR.w11.o, hR.w12.o, hR.w13.o, hR.w14.o, hR.w15.o, hR.w16.o, hR.w17.o, hR.w18.o, hR.w19.o, hR.f0.k, (fun _ => rfl), hR.f2.k, hR.f3.k, hR.f4.k, hR.f5.k, hR.f6.k, hR.f7.k, hR.f8.k, hR.f9.k, hR.f10.k, hR.f11.k, hR.f12.k, hR.f13.k, hR.f14.k, hR.f15.k, hR.f16.k, hR.f17.k, hR.f18.k, hR.f19.k⟩⟩
              refine EachOf.cons [0, 1] rfl (by kernel_rfl) ?_ ?_
              · rintro L A W ⟨v, rfl, hR⟩ hi hw K hK
                have e0 := hR.f0 (hw 0 (by simp))
                have e1 := hR.f1 (hw 1 (by simp))
                simp only [e0, e1]
                clear e0 e1
                go_simp
                refine hK.out _ _ ?_
                exact ⟨(fun jz => if jz = 17 then .slice (some ⟨lg, lo, none⟩) (N) (lc) else if jz = 18 then .int .i64 (j : Int) else if jz = 19 then .pointer (some ⟨lg, lo + j, none⟩) else v jz), rfl, ⟨hR.st, (fun _ j hj => upd_on (hw j hj)), hR.w3.o, hR.w6.o, hR.w7.o, hR.w8.o, hR.w9.o, hR.w10.o, hR.w11.o, hR.w12.o, hR.w13.o, hR.w14.o, hR.w15.o, hR.w16.o, hR.w17.o, hR.w18.o, hR.w19.o, (fun _ => rfl), (fun _ => rfl), (fun _ => rfl), hR.f3.k, hR.f4.k, hR.f5.k, hR.f6.k, hR.f7.k, hR.f8.k, hR.f9.k, hR.f10.k, hR.f11.k, hR.f12.k, hR.f13.k, hR.f14.k, hR.f15.k, hR.f16.k, hR.f17.k, hR.f18.k, hR.f19.k⟩⟩
              refine EachOf.cons [2] rfl (by kernel_rfl) ?_ ?_
              · rintro L A W ⟨v, rfl, hR⟩ hi hw K hK
                have e2 := hR.f2 (hw 2 (by simp))
                simp only [e2]
                clear e2
                have q0 := (hR.st.cell (p := ⟨lg, lo + j, none⟩) LX.out.2).trans LX.out.1
                go_simp
                refine hK.out _ _ ?_
                exact ⟨(fun jz => if jz = 19 then .pointer (some ⟨lg, lo + j, none⟩) else if jz = 20 then .slice xa x.length xc else v jz), rfl, ⟨hR.st, hR.w2.o, (fun _ j hj => upd_on (hw j hj)), hR.w6.o, hR.w7.o, hR.w8.o, hR.w9.o, hR.w10.o, hR.w11.o, hR.w12.o, hR.w13.o, hR.w14.o, hR.w15.o, hR.w16.o, hR.w17.o, hR.w18.o, hR.w19.o, hR.f0.k, hR.f1.k, (fun _ => rfl), (fun _ => rfl), hR.f4.k, hR.f5.k, hR.f6.k, hR.f7.k, hR.f8.k, hR.f9.k, hR.f10.k, hR.f11.k, hR.f12.k, hR.f13.k, hR.f14.k, hR.f15.k, hR.f16.k, hR.f17.k, hR.f18.k, hR.f19.k⟩⟩
              refine EachOf.cons [] rfl (by kernel_rfl) ?_ ?_
              · rintro L A W ⟨v, rfl, hR⟩ hi hw K hK
                go_simp
                refine hK.out _ _ ?_
                exact ⟨(fun jz => if jz = 21 then .slice (some ⟨mg, mo, none⟩) (N) (mc) else v jz), rfl, ⟨hR.st, hR.w2.o, hR.w3.o, hR.w6.o, hR.w7.o, hR.w8.o, hR.w9.o, hR.w10.o, hR.w11.o, hR.w12.o, hR.w13.o, hR.w14.o, hR.w15.o, hR.w16.o, hR.w17.o, hR.w18.o, hR.w19.o, hR.f0.k, hR.f1.k, hR.f2.k, hR.f3.k, (fun _ => rfl), hR.f5.k, hR.f6.k, hR.f7.k, hR.f8.k, hR.f9.k, hR.f10.k, hR.f11.k, hR.f12.k, hR.f13.k, hR.f14.k, hR.f15.k, hR.f16.k, hR.f17.k, hR.f18.k, hR.f19.k⟩⟩
              refine EachOf.cons [] rfl (by kernel_rfl) ?_ ?_
              · rintro L A W ⟨v, rfl, hR⟩ hi hw K hK
                go_simp
                refine hK.out _ _ ?_
                exact ⟨(fun jz => if jz = 22 then .int .i64 (j : Int) else v jz), rfl, ⟨hR.st, hR.w2.o, hR.w3.o, hR.w6.o, hR.w7.o, hR.w8.o, hR.w9.o, hR.w10.o, hR.w11.o, hR.w12.o, hR.w13.o, hR.w14.o, hR.w15.o, hR.w16.o, hR.w17.o, hR.w18.o, hR.w19.o, hR.f0.k, hR.f1.k, hR.f2.k, hR.f3.k, hR.f4.k, (fun _ => rfl), hR.f6.k, hR.f7.k, hR.f8.k, hR.f9.k, hR.f10.k, hR.f11.k, hR.f12.k, hR.f13.k, hR.f14.k, hR.f15.k, hR.f16.k, hR.f17.k, hR.f18.k, hR.f19.k⟩⟩
              refine EachOf.cons [4, 5] rfl (by kernel_rfl) ?_ ?_
              · rintro L A W ⟨v, rfl, hR⟩ hi hw K hK
                have e4 := hR.f4 (hw 4 (by simp))
                have e5 := hR.f5 (hw 5 (by simp))
                simp only [e4, e5]
                clear e4 e5
                go_simp
                refine hK.out _ _ ?_
                exact ⟨(fun jz => if jz = 21 then .slice (some ⟨mg, mo, none⟩) (N) (mc) else if jz = 22 then .int .i64 (j : Int) else if jz = 23 then .pointer (some ⟨mg, mo + j, none⟩) else v jz), rfl, ⟨hR.st, hR.w2.o, hR.w3.o, (fun _ j hj => upd_on (hw j hj)), hR.w7.o, hR.w8.o, hR.w9.o, hR.w10.o, hR.w11.o, hR.w12.o, hR.w13.o, hR.w14.o, hR.w15.o, hR.w16.o, hR.w17.o, hR.w18.o, hR.w19.o, hR.f0.k, hR.f1.k, hR.f2.k, hR.f3.k, (fun _ => rfl), (fun _ => rfl), (fun _ => rfl), hR.f7.k, hR.f8.k, hR.f9.k, hR.f10.k, hR.f11.k, hR.f12.k, hR.f13.k, hR.f14.k, hR.f15.k, hR.f16.k, hR.f17.k, hR.f18.k, hR.f19.k⟩⟩
              refine EachOf.cons [6] rfl (by kernel_rfl) ?_ ?_
              · rintro L A W ⟨v, rfl, hR⟩ hi hw K hK
                have e6 := hR.f6 (hw 6 (by simp))
                simp only [e6]
                clear e6
                have q0 := (hR.st.cell (p := ⟨mg, mo + j, none⟩) LY.out.2).trans LY.out.1
                go_simp
                refine hK.out _ _ ?_
                exact ⟨(fun jz => if jz = 23 then .pointer (some ⟨mg, mo + j, none⟩) else if jz = 24 then .slice ya y.length yc else v jz), rfl, ⟨hR.st, hR.w2.o, hR.w3.o, hR.w6.o, (fun _ j hj => upd_on (hw j hj)), hR.w8.o, hR.w9.o, hR.w10.o, hR.w11.o, hR.w12.o, hR.w13.o, hR.w14.o, hR.w15.o, hR.w16.o, hR.w17.o, hR.w18.o, hR.w19.o, hR.f0.k, hR.f1.k, hR.f2.k, hR.f3.k, hR.f4.k, hR.f5.k, (fun _ => rfl), (fun _ => rfl), hR.f8.k, hR.f9.k, hR.f10.k, hR.f11.k, hR.f12.k, hR.f13.k, hR.f14.k, hR.f15.k, hR.f16.k, hR.f17.k, hR.f18.k, hR.f19.k⟩⟩
              refine EachOf.cons [3, 7] rfl (by kernel_rfl) ?_ ?_
              · rintro L A W ⟨v, rfl, hR⟩ hi hw K hK
                have e3 := hR.f3 (hw 3 (by simp))
                have e7 := hR.f7 (hw 7 (by simp))
                simp only [e3, e7]
                clear e3 e7
                go_simp
                go_at_call 30
                (with_reducible refine ((C1 _ hR.st).out).mono ?_)
                rintro e w2 ⟨rfl, hb⟩
                go_simp
                refine hK.out _ _ ?_
                exact ⟨(fun jz => if jz = 20 then .slice xa x.length xc else if jz = 24 then .slice ya y.length yc else if jz = 25 then .bool false else v jz), rfl, ⟨below_on hR.st hb, hR.w2.o, hR.w3.o, hR.w6.o, hR.w7.o, (fun _ j hj => upd_on (hw j hj)), hR.w9.o, hR.w10.o, hR.w11.o, hR.w12.o, hR.w13.o, hR.w14.o, hR.w15.o, hR.w16.o, hR.w17.o, hR.w18.o, hR.w19.o, hR.f0.k, hR.f1.k, hR.f2.k, (fun _ => rfl), hR.f4.k, hR.f5.k, hR.f6.k, (fun _ => rfl), (fun _ => rfl), hR.f9.k, hR.f10.k, hR.f11.k, hR.f12.k, hR.f13.k, hR.f14.k, hR.f15.k, hR.f16.k, hR.f17.k, hR.f18.k, hR.f19.k⟩⟩
              refine EachOf.cons [8] rfl (by kernel_rfl) ?_ ?_
              · rintro L A W ⟨v, rfl, hR⟩ hi hw K hK
                have e8 := hR.f8 (hw 8 (by simp))
                simp only [e8]
                clear e8
                go_simp
                refine hK.out _ _ ?_
                exact ⟨(fun jz => if jz = 25 then .bool false else if jz = 26 then .bool false else v jz), rfl, ⟨hR.st, hR.w2.o, hR.w3.o, hR.w6.o, hR.w7.o, hR.w8.o, (fun _ j hj => upd_on (hw j hj)), hR.w10.o, hR.w11.o, hR.w12.o, hR.w13.o, hR.w14.o, hR.w15.o, hR.w16.o, hR.w17.o, hR.w18.o, hR.w19.o, hR.f0.k, hR.f1.k, hR.f2.k, hR.f3.k, hR.f4.k, hR.f5.k, hR.f6.k, hR.f7.k, (fun _ => rfl), (fun _ => rfl), hR.f10.k, hR.f11.k, hR.f12.k, hR.f13.k, hR.f14.k, hR.f15.k, hR.f16.k, hR.f17.k, hR.f18.k, hR.f19.k⟩⟩
              refine EachOf.cons [9] rfl (by kernel_rfl) ?_ ?_
              · rintro L A W ⟨v, rfl, hR⟩ hi hw K hK
                have e9 := hR.f9 (hw 9 (by simp))
                simp only [e9]
                clear e9
                go_simp
                refine hK.out _ _ ?_
                exact ⟨(fun jz => if jz = 26 then .bool false else if jz = 27 then .slice (some ⟨mg, mo, none⟩) (N) (mc) else v jz), rfl, ⟨hR.st, hR.w2.o, hR.w3.o, hR.w6.o, hR.w7.o, hR.w8.o, hR.w9.o, (fun _ j hj => upd_on (hw j hj)), hR.w11.o, hR.w12.o, hR.w13.o, hR.w14.o, hR.w15.o, hR.w16.o, hR.w17.o, hR.w18.o, hR.w19.o, hR.f0.k, hR.f1.k, hR.f2.k, hR.f3.k, hR.f4.k, hR.f5.k, hR.f6.k, hR.f7.k, hR.f8.k, (fun _ => rfl), (fun _ => rfl), hR.f11.k, hR.f12.k, hR.f13.k, hR.f14.k, hR.f15.k, hR.f16.k, hR.f17.k, hR.f18.k, hR.f19.k⟩⟩
              refine EachOf.cons [9] rfl (by kernel_rfl) ?_ ?_
              · rintro L A W ⟨v, rfl, hR⟩ hi hw K hK
                have e9 := hR.f9 (hw 9 (by simp))
                simp only [e9]
                clear e9
                go_simp
                refine hK.out _ _ ?_
                exact ⟨(fun jz => if jz = 26 then .bool false else if jz = 28 then .int .i64 (j : Int) else v jz), rfl, ⟨hR.st, hR.w2.o, hR.w3.o, hR.w6.o, hR.w7.o, hR.w8.o, hR.w9.o, hR.w10.o, (fun _ j hj => upd_on (hw j hj)), hR.w12.o, hR.w13.o, hR.w14.o, hR.w15.o, hR.w16.o, hR.w17.o, hR.w18.o, hR.w19.o, hR.f0.k, hR.f1.k, hR.f2.k, hR.f3.k, hR.f4.k, hR.f5.k, hR.f6.k, hR.f7.k, hR.f8.k, (fun _ => rfl), hR.f10.k, (fun _ => rfl), hR.f12.k, hR.f13.k, hR.f14.k, hR.f15.k, hR.f16.k, hR.f17.k, hR.f18.k, hR.f19.k⟩⟩
              refine EachOf.cons [9, 10, 11] rfl (by kernel_rfl) ?_ ?_
              · rintro L A W ⟨v, rfl, hR⟩ hi hw K hK
                have e10 := hR.f10 (hw 10 (by simp))
                have e11 := hR.f11 (hw 11 (by simp))
                have e9 := hR.f9 (hw 9 (by simp))
                simp only [e10, e11, e9]
                clear e10 e11 e9
                go_simp
                refine hK.out _ _ ?_
                exact ⟨(fun jz => if jz = 27 then .slice (some ⟨mg, mo, none⟩) (N) (mc) else if jz = 28 then .int .i64 (j : Int) else if jz = 26 then .bool false else if jz = 29 then .pointer (some ⟨mg, mo + j, none⟩) else v jz), rfl, ⟨hR.st, hR.w2.o, hR.w3.o, hR.w6.o, hR.w7.o, hR.w8.o, hR.w9.o, hR.w10.o, hR.w11.o, (fun _ j hj => upd_on (hw j hj)), hR.w13.o, hR.w14.o, hR.w15.o, hR.w16.o, hR.w17.o, hR.w18.o, hR.w19.o, hR.f0.k, hR.f1.k, hR.f2.k, hR.f3.k, hR.f4.k, hR.f5.k, hR.f6.k, hR.f7.k, hR.f8.k, (fun _ => rfl), (fun _ => rfl), (fun _ => rfl), (fun _ => rfl), hR.f13.k, hR.f14.k, hR.f15.k, hR.f16.k, hR.f17.k, hR.f18.k, hR.f19.k⟩⟩
              refine EachOf.cons [9, 12] rfl (by kernel_rfl) ?_ ?_
              · rintro L A W ⟨v, rfl, hR⟩ hi hw K hK
                have e12 := hR.f12 (hw 12 (by simp))
                have e9 := hR.f9 (hw 9 (by simp))
                simp only [e12, e9]
                clear e12 e9
                have q0 := (hR.st.cell (p := ⟨mg, mo + j, none⟩) LY.out.2).trans LY.out.1
                go_simp
                refine hK.out _ _ ?_
                exact ⟨(fun jz => if jz = 29 then .pointer (some ⟨mg, mo + j, none⟩) else if jz = 26 then .bool false else if jz = 30 then .slice ya y.length yc else v jz), rfl, ⟨hR.st, hR.w2.o, hR.w3.o, hR.w6.o, hR.w7.o, hR.w8.o, hR.w9.o, hR.w10.o, hR.w11.o, hR.w12.o, (fun _ j hj => upd_on (hw j hj)), hR.w14.o, hR.w15.o, hR.w16.o, hR.w17.o, hR.w18.o, hR.w19.o, hR.f0.k, hR.f1.k, hR.f2.k, hR.f3.k, hR.f4.k, hR.f5.k, hR.f6.k, hR.f7.k, hR.f8.k, (fun _ => rfl), hR.f10.k, hR.f11.k, (fun _ => rfl), (fun _ => rfl), hR.f14.k, hR.f15.k, hR.f16.k, hR.f17.k, hR.f18.k, hR.f19.k⟩⟩
              refine EachOf.cons [9] rfl (by kernel_rfl) ?_ ?_
              · rintro L A W ⟨v, rfl, hR⟩ hi hw K hK
                have e9 := hR.f9 (hw 9 (by simp))
                simp only [e9]
                clear e9
                go_simp
                refine hK.out _ _ ?_
                exact ⟨(fun jz => if jz = 26 then .bool false else if jz = 31 then .slice (some ⟨lg, lo, none⟩) (N) (lc) else v jz), rfl, ⟨hR.st, hR.w2.o, hR.w3.o, hR.w6.o, hR.w7.o, hR.w8.o, hR.w9.o, hR.w10.o, hR.w11.o, hR.w12.o, hR.w13.o, (fun _ j hj => upd_on (hw j hj)), hR.w15.o, hR.w16.o, hR.w17.o, hR.w18.o, hR.w19.o, hR.f0.k, hR.f1.k, hR.f2.k, hR.f3.k, hR.f4.k, hR.f5.k, hR.f6.k, hR.f7.k, hR.f8.k, (fun _ => rfl), hR.f10.k, hR.f11.k, hR.f12.k, hR.f13.k, (fun _ => rfl), hR.f15.k, hR.f16.k, hR.f17.k, hR.f18.k, hR.f19.k⟩⟩
              refine EachOf.cons [9] rfl (by kernel_rfl) ?_ ?_
              · rintro L A W ⟨v, rfl, hR⟩ hi hw K hK
                have e9 := hR.f9 (hw 9 (by simp))
                simp only [e9]
                clear e9
                go_simp
                refine hK.out _ _ ?_
                exact ⟨(fun jz => if jz = 26 then .bool false else if jz = 32 then .int .i64 (j : Int) else v jz), rfl, ⟨hR.st, hR.w2.o, hR.w3.o, hR.w6.o, hR.w7.o, hR.w8.o, hR.w9.o, hR.w10.o, hR.w11.o, hR.w12.o, hR.w13.o, hR.w14.o, (fun _ j hj => upd_on (hw j hj)), hR.w16.o, hR.w17.o, hR.w18.o, hR.w19.o, hR.f0.k, hR.f1.k, hR.f2.k, hR.f3.k, hR.f4.k, hR.f5.k, hR.f6.k, hR.f7.k, hR.f8.k, (fun _ => rfl), hR.f10.k, hR.f11.k, hR.f12.k, hR.f13.k, hR.f14.k, (fun _ => rfl), hR.f16.k, hR.f17.k, hR.f18.k, hR.f19.k⟩⟩
              refine EachOf.cons [9, 14, 15] rfl (by kernel_rfl) ?_ ?_
              · rintro L A W ⟨v, rfl, hR⟩ hi hw K hK
                have e14 := hR.f14 (hw 14 (by simp))
                have e15 := hR.f15 (hw 15 (by simp))
                have e9 := hR.f9 (hw 9 (by simp))
                simp only [e14, e15, e9]
                clear e14 e15 e9
                go_simp
                refine hK.out _ _ ?_
                exact ⟨(fun jz => if jz = 31 then .slice (some ⟨lg, lo, none⟩) (N) (lc) else if jz = 32 then .int .i64 (j : Int) else if jz = 26 then .bool false else if jz = 33 then .pointer (some ⟨lg, lo + j, none⟩) else v jz), rfl, ⟨hR.st, hR.w2.o, hR.w3.o, hR.w6.o, hR.w7.o, hR.w8.o, hR.w9.o, hR.w10.o, hR.w11.o, hR.w12.o, hR.w13.o, hR.w14.o, hR.w15.o, (fun _ j hj => upd_on (hw j hj)), hR.w17.o, hR.w18.o, hR.w19.o, hR.f0.k, hR.f1.k, hR.f2.k, hR.f3.k, hR.f4.k, hR.f5.k, hR.f6.k, hR.f7.k, hR.f8.k, (fun _ => rfl), hR.f10.k, hR.f11.k, hR.f12.k, hR.f13.k, (fun _ => rfl), (fun _ => rfl), (fun _ => rfl), hR.f17.k, hR.f18.k, hR.f19.k⟩⟩
              refine EachOf.cons [9, 16] rfl (by kernel_rfl) ?_ ?_
              · rintro L A W ⟨v, rfl, hR⟩ hi hw K hK
                have e16 := hR.f16 (hw 16 (by simp))
                have e9 := hR.f9 (hw 9 (by simp))
                simp only [e16, e9]
                clear e16 e9
                have q0 := (hR.st.cell (p := ⟨lg, lo + j, none⟩) LX.out.2).trans LX.out.1
                go_simp
                refine hK.out _ _ ?_
                exact ⟨(fun jz => if jz = 33 then .pointer (some ⟨lg, lo + j, none⟩) else if jz = 26 then .bool false else if jz = 34 then .slice xa x.length xc else v jz), rfl, ⟨hR.st, hR.w2.o, hR.w3.o, hR.w6.o, hR.w7.o, hR.w8.o, hR.w9.o, hR.w10.o, hR.w11.o, hR.w12.o, hR.w13.o, hR.w14.o, hR.w15.o, hR.w16.o, (fun _ j hj => upd_on (hw j hj)), hR.w18.o, hR.w19.o, hR.f0.k, hR.f1.k, hR.f2.k, hR.f3.k, hR.f4.k, hR.f5.k, hR.f6.k, hR.f7.k, hR.f8.k, (fun _ => rfl), hR.f10.k, hR.f11.k, hR.f12.k, hR.f13.k, hR.f14.k, hR.f15.k, (fun _ => rfl), (fun _ => rfl), hR.f18.k, hR.f19.k⟩⟩
              refine EachOf.cons [9, 13, 17] rfl (by kernel_rfl) ?_ ?_
              · rintro L A W ⟨v, rfl, hR⟩ hi hw K hK
                have e13 := hR.f13 (hw 13 (by simp))
                have e17 := hR.f17 (hw 17 (by simp))
                have e9 := hR.f9 (hw 9 (by simp))
                simp only [e13, e17, e9]
                clear e13 e17 e9
                go_simp
                go_at_call 30
                (with_reducible refine ((C2 _ hR.st).out).mono ?_)
                rintro e w2 ⟨rfl, hb⟩
                go_simp
                refine hK.out _ _ ?_
                exact ⟨(fun jz => if jz = 30 then .slice ya y.length yc else if jz = 34 then .slice xa x.length xc else if jz = 26 then .bool false else if jz = 35 then .bool true else v jz), rfl, ⟨below_on hR.st hb, hR.w2.o, hR.w3.o, hR.w6.o, hR.w7.o, hR.w8.o, hR.w9.o, hR.w10.o, hR.w11.o, hR.w12.o, hR.w13.o, hR.w14.o, hR.w15.o, hR.w16.o, hR.w17.o, (fun _ j hj => upd_on (hw j hj)), hR.w19.o, hR.f0.k, hR.f1.k, hR.f2.k, hR.f3.k, hR.f4.k, hR.f5.k, hR.f6.k, hR.f7.k, hR.f8.k, (fun _ => rfl), hR.f10.k, hR.f11.k, hR.f12.k, (fun _ => rfl), hR.f14.k, hR.f15.k, hR.f16.k, (fun _ => rfl), (fun _ => rfl), hR.f19.k⟩⟩
              refine EachOf.cons [9, 18] rfl (by kernel_rfl) ?_ ?_
              · rintro L A W ⟨v, rfl, hR⟩ hi hw K hK
                have e9 := hR.f9 (hw 9 (by simp))
                have e18 := hR.f18 (hw 18 (by simp))
                simp only [e9, e18]
                clear e9 e18
                go_simp
                refine hK.out _ _ ?_
                exact ⟨(fun jz => if jz = 26 then .bool false else if jz = 35 then .bool true else if jz = 36 then .bool true else v jz), rfl, ⟨hR.st, hR.w2.o, hR.w3.o, hR.w6.o, hR.w7.o, hR.w8.o, hR.w9.o, hR.w10.o, hR.w11.o, hR.w12.o, hR.w13.o, hR.w14.o, hR.w15.o, hR.w16.o, hR.w17.o, hR.w18.o, (fun _ j hj => upd_on (hw j hj)), hR.f0.k, hR.f1.k, hR.f2.k, hR.f3.k, hR.f4.k, hR.f5.k, hR.f6.k, hR.f7.k, hR.f8.k, (fun _ => rfl), hR.f10.k, hR.f11.k, hR.f12.k, hR.f13.k, hR.f14.k, hR.f15.k, hR.f16.k, hR.f17.k, (fun _ => rfl), (fun _ => rfl)⟩⟩
              exact EachOf.nil
            rintro L A W ⟨v, rfl, hR⟩ hL
            have hst := hR.st
            have e19 := hR.f19 (hL 19 (by simp))
            simp only [e19]
            have T := Lib.hid (below_on S.out.2 hst)
            clear e19 hst hR hL LX LY S
            go_wp2_with fail
            go_ret
            exact ⟨by rw [decide_eq_false HF.out]; rfl, T.out⟩
          | false =>
            have HQ : Hid (∀ i, i < j + 1 → ls.getD i [] = ms.getD i []) := fun i hi => by
              by_cases q : i = j
              · rw [q, HXY.out.1, HXY.out.2]; exact HE.out h1 h2
              · exact S.out.1 i (by omega)
            rw [h1] at C1
            rw [h2] at C2
            clear h1 h2 HE HE2 HE3 HNE
            go_upto_region 6 with fail
            refine wp_region_each (fun L A W => ∃ (v : Nat → Value), A = ⟨#[_, _, _, _, _, _, _, _, _, _, _, _, _, _, _, _, _, v 17, v 18, v 19, v 20, v 21, v 22, v 23, v 24, v 25, v 26, v 27, v 28, v 29, v 30, v 31, v 32, v 33, v 34, v 35, v 36], []⟩ ∧ SmaR lg lo N lc mg mo mc j xa ya x.length xc y.length yc false W1 L v W) (by kernel_rfl) (by kernel_rfl) ⟨fun jz => if jz = 17 then u17 else if jz = 18 then u18 else if jz = 19 then u19 else if jz = 20 then u20 else if jz = 21 then u21 else if jz = 22 then u22 else if jz = 23 then u23 else if jz = 24 then u24 else if jz = 25 then u25 else if jz = 26 then u26 else if jz = 27 then u27 else if jz = 28 then u28 else if jz = 29 then u29 else if jz = 30 then u30 else if jz = 31 then u31 else if jz = 32 then u32 else if jz = 33 then u33 else if jz = 34 then u34 else if jz = 35 then u35 else if jz = 36 then u36 else undef, rfl, ⟨Below.drew (Below.refl _ _), Had.none, Had.none, Had.none, Had.none, Had.none, Had.none, Had.none, Had.none, Had.none, Had.none, Had.none, Had.none, Had.none, Had.none, Had.none, Had.none, Had.none, Had.none, Had.none, Had.none, Had.none, Had.none, Had.none, Had.none, Had.none, Had.none, Had.none, Had.none, Had.none, Had.none, Had.none, Had.none, Had.none, Had.none, Had.none, Had.none⟩⟩ (rs := [0, 1, 2, 3, 4, 5, 6, 7, 8, 9, 10, 11, 12, 13, 14, 15, 16, 17, 18, 19]) (by kernel_rfl) ?_ ?_
            · refine EachOf.cons [] rfl (by kernel_rfl) ?_ ?_
              · rintro L A W ⟨v, rfl, hR⟩ hi hw K hK
                go_simp
                refine hK.out _ _ ?_
                exact ⟨(fun jz => if jz = 17 then .slice (some ⟨lg, lo, none⟩) (N) (lc) else v jz), rfl, ⟨hR.st, hR.w2.o, hR.w3.o, hR.w6.o, hR.w7.o, hR.w8.o, hR.w9.o, hR.w10.o, hR.w11.o, hR.w12.o, hR.w13.o, hR.w14.o, hR.w15.o, hR.w16.o, hR.w17.o, hR.w18.o, hR.w19.o, (fun _ => rfl), hR.f1.k, hR.f2.k, hR.f3.k, hR.f4.k, hR.f5.k, hR.f6.k, hR.f7.k, hR.f8.k, hR.f9.k, hR.f10.k, hR.f11.k, hR.f12.k, hR.f13.k, hR.f14.k, hR.f15.k, hR.f16.k, hR.f17.k, hR.f18.k, hR.f19.k⟩⟩
              refine EachOf.cons [] rfl (by kernel_rfl) ?_ ?_
              · rintro L A W ⟨v, rfl, hR⟩ hi hw K hK
                go_simp
                refine hK.out _ _ ?_
                exact ⟨(fun jz => if jz = 18 then .int .i64 (j : Int) else v jz), rfl, ⟨hR.st, hR.w2.o, hR.w3.o, hR.w6.o, hR.w7.o, hR.w8.o, hR.w9.o, hR.w10.o, hR.w11.o, hR.w12.o, hR.w13.o, hR.w14.o, hR.w15.o, hR.w16.o, hR.w17.o, hR.w18.o, hR.w19.o, hR.f0.k, (fun _ => rfl), hR.f2.k, hR.f3.k, hR.f4.k, hR.f5.k, hR.f6.k, hR.f7.k, hR.f8.k, hR.f9.k, hR.f10.k, hR.f11.k, hR.f12.k, hR.f13.k, hR.f14.k, hR.f15.k, hR.f16.k, hR.f17.k, hR.f18.k, hR.f19.k⟩⟩
              refine EachOf.cons [0, 1] rfl (by kernel_rfl) ?_ ?_
              · rintro L A W ⟨v, rfl, hR⟩ hi hw K hK
                have e0 := hR.f0 (hw 0 (by simp))
                have e1 := hR.f1 (hw 1 (by simp))
                simp only [e0, e1]
                clear e0 e1
                go_simp
                refine hK.out _ _ ?_
                exact ⟨(fun jz => if jz = 17 then .slice (some ⟨lg, lo, none⟩) (N) (lc) else if jz = 18 then .int .i64 (j : Int) else if jz = 19 then .pointer (some ⟨lg, lo + j, none⟩) else v jz), rfl, ⟨hR.st, (fun _ j hj => upd_on (hw j hj)), hR.w3.o, hR.w6.o, hR.w7.o, hR.w8.o, hR.w9.o, hR.w10.o, hR.w11.o, hR.w12.o, hR.w13.o, hR.w14.o, hR.w15.o, hR.w16.o, hR.w17.o, hR.w18.o, hR.w19.o, (fun _ => rfl), (fun _ => rfl), (fun _ => rfl), hR.f3.k, hR.f4.k, hR.f5.k, hR.f6.k, hR.f7.k, hR.f8.k, hR.f9.k, hR.f10.k, hR.f11.k, hR.f12.k, hR.f13.k, hR.f14.k, hR.f15.k, hR.f16.k, hR.f17.k, hR.f18.k, hR.f19.k⟩⟩
              refine EachOf.cons [2] rfl (by kernel_rfl) ?_ ?_
              · rintro L A W ⟨v, rfl, hR⟩ hi hw K hK
                have e2 := hR.f2 (hw 2 (by simp))
                simp only [e2]
                clear e2
                have q0 := (hR.st.cell (p := ⟨lg, lo + j, none⟩) LX.out.2).trans LX.out.1
                go_simp
                refine hK.out _ _ ?_
                exact ⟨(fun jz => if jz = 19 then .pointer (some ⟨lg, lo + j, none⟩) else if jz = 20 then .slice xa x.length xc else v jz), rfl, ⟨hR.st, hR.w2.o, (fun _ j hj => upd_on (hw j hj)), hR.w6.o, hR.w7.o, hR.w8.o, hR.w9.o, hR.w10.o, hR.w11.o, hR.w12.o, hR.w13.o, hR.w14.o, hR.w15.o, hR.w16.o, hR.w17.o, hR.w18.o, hR.w19.o, hR.f0.k, hR.f1.k, (fun _ => rfl), (fun _ => rfl), hR.f4.k, hR.f5.k, hR.f6.k, hR.f7.k, hR.f8.k, hR.f9.k, hR.f10.k, hR.f11.k, hR.f12.k, hR.f13.k, hR.f14.k, hR.f15.k, hR.f16.k, hR.f17.k, hR.f18.k, hR.f19.k⟩⟩
              refine EachOf.cons [] rfl (by kernel_rfl) ?_ ?_
              · rintro L A W ⟨v, rfl, hR⟩ hi hw K hK
                go_simp
                refine hK.out _ _ ?_
                exact ⟨(fun jz => if jz = 21 then .slice (some ⟨mg, mo, none⟩) (N) (mc) else v jz), rfl, ⟨hR.st, hR.w2.o, hR.w3.o, hR.w6.o, hR.w7.o, hR.w8.o, hR.w9.o, hR.w10.o, hR.w11.o, hR.w12.o, hR.w13.o, hR.w14.o, hR.w15.o, hR.w16.o, hR.w17.o, hR.w18.o, hR.w19.o, hR.f0.k, hR.f1.k, hR.f2.k, hR.f3.k, (fun _ => rfl), hR.f5.k, hR.f6.k, hR.f7.k, hR.f8.k, hR.f9.k, hR.f10.k, hR.f11.k, hR.f12.k, hR.f13.k, hR.f14.k, hR.f15.k, hR.f16.k, hR.f17.k, hR.f18.k, hR.f19.k⟩⟩
              refine EachOf.cons [] rfl (by kernel_rfl) ?_ ?_
              · rintro L A W ⟨v, rfl, hR⟩ hi hw K hK
                go_simp
                refine hK.out _ _ ?_
                exact ⟨(fun jz => if jz = 22 then .int .i64 (j : Int) else v jz), rfl, ⟨hR.st, hR.w2.o, hR.w3.o, hR.w6.o, hR.w7.o, hR.w8.o, hR.w9.o, hR.w10.o, hR.w11.o, hR.w12.o, hR.w13.o, hR.w14.o, hR.w15.o, hR.w16.o, hR.w17.o, hR.w18.o, hR.w19.o, hR.f0.k, hR.f1.k, hR.f2.k, hR.f3.k, hR.f4.k, (fun _ => rfl), hR.f6.k, hR.f7.k, hR.f8.k, hR.f9.k, hR.f10.k, hR.f11.k, hR.f12.k, hR.f13.k, hR.f14.k, hR.f15.k, hR.f16.k, hR.f17.k, hR.f18.k, hR.f19.k⟩⟩
              refine EachOf.cons [4, 5] rfl (by kernel_rfl) ?_ ?_
              · rintro L A W ⟨v, rfl, hR⟩ hi hw K hK
                have e4 := hR.f4 (hw 4 (by simp))
                have e5 := hR.f5 (hw 5 (by simp))
                simp only [e4, e5]
                clear e4 e5
                go_simp
                refine hK.out _ _ ?_
                exact ⟨(fun jz => if jz = 21 then .slice (some ⟨mg, mo, none⟩) (N) (mc) else if jz = 22 then .int .i64 (j : Int) else if jz = 23 then .pointer (some ⟨mg, mo + j, none⟩) else v jz), rfl, ⟨hR.st, hR.w2.o, hR.w3.o, (fun _ j hj => upd_on (hw j hj)), hR.w7.o, hR.w8.o, hR.w9.o, hR.w10.o, hR.w11.o, hR.w12.o, hR.w13.o, hR.w14.o, hR.w15.o, hR.w16.o, hR.w17.o, hR.w18.o, hR.w19.o, hR.f0.k, hR.f1.k, hR.f2.k, hR.f3.k, (fun _ => rfl), (fun _ => rfl), (fun _ => rfl), hR.f7.k, hR.f8.k, hR.f9.k, hR.f10.k, hR.f11.k, hR.f12.k, hR.f13.k, hR.f14.k, hR.f15.k, hR.f16.k, hR.f17.k, hR.f18.k, hR.f19.k⟩⟩
              refine EachOf.cons [6] rfl (by kernel_rfl) ?_ ?_
              · rintro L A W ⟨v, rfl, hR⟩ hi hw K hK
                have e6 := hR.f6 (hw 6 (by simp))
                simp only [e6]
                clear e6
                have q0 := (hR.st.cell (p := ⟨mg, mo + j, none⟩) LY.out.2).trans LY.out.1
                go_simp
                refine hK.out _ _ ?_
                exact ⟨(fun jz => if jz = 23 then .pointer (some ⟨mg, mo + j, none⟩) else if jz = 24 then .slice ya y.length yc else v jz), rfl, ⟨hR.st, hR.w2.o, hR.w3.o, hR.w6.o, (fun _ j hj => upd_on (hw j hj)), hR.w8.o, hR.w9.o, hR.w10.o, hR.w11.o, hR.w12.o, hR.w13.o, hR.w14.o, hR.w15.o, hR.w16.o, hR.w17.o, hR.w18.o, hR.w19.o, hR.f0.k, hR.f1.k, hR.f2.k, hR.f3.k, hR.f4.k, hR.f5.k, (fun _ => rfl), (fun _ => rfl), hR.f8.k, hR.f9.k, hR.f10.k, hR.f11.k, hR.f12.k, hR.f13.k, hR.f14.k, hR.f15.k, hR.f16.k, hR.f17.k, hR.f18.k, hR.f19.k⟩⟩
              refine EachOf.cons [3, 7] rfl (by kernel_rfl) ?_ ?_
              · rintro L A W ⟨v, rfl, hR⟩ hi hw K hK
                have e3 := hR.f3 (hw 3 (by simp))
                have e7 := hR.f7 (hw 7 (by simp))
                simp only [e3, e7]
                clear e3 e7
                go_simp
                go_at_call 30
                (with_reducible refine ((C1 _ hR.st).out).mono ?_)
                rintro e w2 ⟨rfl, hb⟩
                go_simp
                refine hK.out _ _ ?_
                exact ⟨(fun jz => if jz = 20 then .slice xa x.length xc else if jz = 24 then .slice ya y.length yc else if jz = 25 then .bool false else v jz), rfl, ⟨below_on hR.st hb, hR.w2.o, hR.w3.o, hR.w6.o, hR.w7.o, (fun _ j hj => upd_on (hw j hj)), hR.w9.o, hR.w10.o, hR.w11.o, hR.w12.o, hR.w13.o, hR.w14.o, hR.w15.o, hR.w16.o, hR.w17.o, hR.w18.o, hR.w19.o, hR.f0.k, hR.f1.k, hR.f2.k, (fun _ => rfl), hR.f4.k, hR.f5.k, hR.f6.k, (fun _ => rfl), (fun _ => rfl), hR.f9.k, hR.f10.k, hR.f11.k, hR.f12.k, hR.f13.k, hR.f14.k, hR.f15.k, hR.f16.k, hR.f17.k, hR.f18.k, hR.f19.k⟩⟩
              refine EachOf.cons [8] rfl (by kernel_rfl) ?_ ?_
              · rintro L A W ⟨v, rfl, hR⟩ hi hw K hK
                have e8 := hR.f8 (hw 8 (by simp))
                simp only [e8]
                clear e8
                go_simp
                refine hK.out _ _ ?_
                exact ⟨(fun jz => if jz = 25 then .bool false else if jz = 26 then .bool false else v jz), rfl, ⟨hR.st, hR.w2.o, hR.w3.o, hR.w6.o, hR.w7.o, hR.w8.o, (fun _ j hj => upd_on (hw j hj)), hR.w10.o, hR.w11.o, hR.w12.o, hR.w13.o, hR.w14.o, hR.w15.o, hR.w16.o, hR.w17.o, hR.w18.o, hR.w19.o, hR.f0.k, hR.f1.k, hR.f2.k, hR.f3.k, hR.f4.k, hR.f5.k, hR.f6.k, hR.f7.k, (fun _ => rfl), (fun _ => rfl), hR.f10.k, hR.f11.k, hR.f12.k, hR.f13.k, hR.f14.k, hR.f15.k, hR.f16.k, hR.f17.k, hR.f18.k, hR.f19.k⟩⟩
              refine EachOf.cons [9] rfl (by kernel_rfl) ?_ ?_
              · rintro L A W ⟨v, rfl, hR⟩ hi hw K hK
                have e9 := hR.f9 (hw 9 (by simp))
                simp only [e9]
                clear e9
                go_simp
                refine hK.out _ _ ?_
                exact ⟨(fun jz => if jz = 26 then .bool false else if jz = 27 then .slice (some ⟨mg, mo, none⟩) (N) (mc) else v jz), rfl, ⟨hR.st, hR.w2.o, hR.w3.o, hR.w6.o, hR.w7.o, hR.w8.o, hR.w9.o, (fun _ j hj => upd_on (hw j hj)), hR.w11.o, hR.w12.o, hR.w13.o, hR.w14.o, hR.w15.o, hR.w16.o, hR.w17.o, hR.w18.o, hR.w19.o, hR.f0.k, hR.f1.k, hR.f2.k, hR.f3.k, hR.f4.k, hR.f5.k, hR.f6.k, hR.f7.k, hR.f8.k, (fun _ => rfl), (fun _ => rfl), hR.f11.k, hR.f12.k, hR.f13.k, hR.f14.k, hR.f15.k, hR.f16.k, hR.f17.k, hR.f18.k, hR.f19.k⟩⟩
              refine EachOf.cons [9] rfl (by kernel_rfl) ?_ ?_
              · rintro L A W ⟨v, rfl, hR⟩ hi hw K hK
                have e9 := hR.f9 (hw 9 (by simp))
                simp only [e9]
                clear e9
                go_simp
                refine hK.out _ _ ?_
                exact ⟨(fun jz => if jz = 26 then .bool false else if jz = 28 then .int .i64 (j : Int) else v jz), rfl, ⟨hR.st, hR.w2.o, hR.w3.o, hR.w6.o, hR.w7.o, hR.w8.o, hR.w9.o, hR.w10.o, (fun _ j hj => upd_on (hw j hj)), hR.w12.o, hR.w13.o, hR.w14.o, hR.w15.o, hR.w16.o, hR.w17.o, hR.w18.o, hR.w19.o, hR.f0.k, hR.f1.k, hR.f2.k, hR.f3.k, hR.f4.k, hR.f5.k, hR.f6.k, hR.f7.k, hR.f8.k, (fun _ => rfl), hR.f10.k, (fun _ => rfl), hR.f12.k, hR.f13.k, hR.f14.k, hR.f15.k, hR.f16.k, hR.f17.k, hR.f18.k, hR.f19.k⟩⟩
              refine EachOf.cons [9, 10, 11] rfl (by kernel_rfl) ?_ ?_
              · rintro L A W ⟨v, rfl, hR⟩ hi hw K hK
                have e10 := hR.f10 (hw 10 (by simp))
                have e11 := hR.f11 (hw 11 (by simp))
                have e9 := hR.f9 (hw 9 (by simp))
                simp only [e10, e11, e9]
                clear e10 e11 e9
                go_simp
                refine hK.out _ _ ?_
                exact ⟨(fun jz => if jz = 27 then .slice (some ⟨mg, mo, none⟩) (N) (mc) else if jz = 28 then .int .i64 (j : Int) else if jz = 26 then .bool false else if jz = 29 then .pointer (some ⟨mg, mo + j, none⟩) else v jz), rfl, ⟨hR.st, hR.w2.o, hR.w3.o, hR.w6.o, hR.w7.o, hR.w8.o, hR.w9.o, hR.w10.o, hR.w11.o, (fun _ j hj => upd_on (hw j hj)), hR.w13.o, hR.w14.o, hR.w15.o, hR.w16.o, hR.w17.o, hR.w18.o, hR.w19.o, hR.f0.k, hR.f1.k, hR.f2.k, hR.f3.k, hR.f4.k, hR.f5.k, hR.f6.k, hR.f7.k, hR.f8.k, (fun _ => rfl), (fun _ => rfl), (fun _ => rfl), (fun _ => rfl), hR.f13.k, hR.f14.k, hR.f15.k, hR.f16.k, hR.f17.k, hR.f18.k, hR.f19.k⟩⟩
              refine EachOf.cons [9, 12] rfl (by kernel_rfl) ?_ ?_
              · rintro L A W ⟨v, rfl, hR⟩ hi hw K hK
                have e12 := hR.f12 (hw 12 (by simp))
                have e9 := hR.f9 (hw 9 (by simp))
                simp only [e12, e9]
                clear e12 e9
                have q0 := (hR.st.cell (p := ⟨mg, mo + j, none⟩) LY.out.2).trans LY.out.1
                go_simp
                refine hK.out _ _ ?_
                exact ⟨(fun jz => if jz = 29 then .pointer (some ⟨mg, mo + j, none⟩) else if jz = 26 then .bool false else if jz = 30 then .slice ya y.length yc else v jz), rfl, ⟨hR.st, hR.w2.o, hR.w3.o, hR.w6.o, hR.w7.o, hR.w8.o, hR.w9.o, hR.w10.o, hR.w11.o, hR.w12.o, (fun _ j hj => upd_on (hw j hj)), hR.w14.o, hR.w15.o, hR.w16.o, hR.w17.o, hR.w18.o, hR.w19.o, hR.f0.k, hR.f1.k, hR.f2.k, hR.f3.k, hR.f4.k, hR.f5.k, hR.f6.k, hR.f7.k, hR.f8.k, (fun _ => rfl), hR.f10.k, hR.f11.k, (fun _ => rfl), (fun _ => rfl), hR.f14.k, hR.f15.k, hR.f16.k, hR.f17.k, hR.f18.k, hR.f19.k⟩⟩
              refine EachOf.cons [9] rfl (by kernel_rfl) ?_ ?_
              · rintro L A W ⟨v, rfl, hR⟩ hi hw K hK
                have e9 := hR.f9 (hw 9 (by simp))
                simp only [e9]
                clear e9
                go_simp
                refine hK.out _ _ ?_
                exact ⟨(fun jz => if jz = 26 then .bool false else if jz = 31 then .slice (some ⟨lg, lo, none⟩) (N) (lc) else v jz), rfl, ⟨hR.st, hR.w2.o, hR.w3.o, hR.w6.o, hR.w7.o, hR.w8.o, hR.w9.o, hR.w10.o, hR.w11.o, hR.w12.o, hR.w13.o, (fun _ j hj => upd_on (hw j hj)), hR.w15.o, hR.w16.o, hR.w17.o, hR.w18.o, hR.w19.o, hR.f0.k, hR.f1.k, hR.f2.k, hR.f3.k, hR.f4.k, hR.f5.k, hR.f6.k, hR.f7.k, hR.f8.k, (fun _ => rfl), hR.f10.k, hR.f11.k, hR.f12.k, hR.f13.k, (fun _ => rfl), hR.f15.k, hR.f16.k, hR.f17.k, hR.f18.k, hR.f19.k⟩⟩
              refine EachOf.cons [9] rfl (by kernel_rfl) ?_ ?_
              · rintro L A W ⟨v, rfl, hR⟩ hi hw K hK
                have e9 := hR.f9 (hw 9 (by simp))
                simp only [e9]
                clear e9
                go_simp
                refine hK.out _ _ ?_
                exact ⟨(fun jz => if jz = 26 then .bool false else if jz = 32 then .int .i64 (j : Int) else v jz), rfl, ⟨hR.st, hR.w2.o, hR.w3.o, hR.w6.o, hR.w7.o, hR.w8.o, hR.w9.o, hR.w10.o, hR.w11.o, hR.w12.o, hR.w13.o, hR.w14.o, (fun _ j hj => upd_on (hw j hj)), hR.w16.o, hR.w17.o, hR.w18.o, hR.w19.o, hR.f0.k, hR.f1.k, hR.f2.k, hR.f3.k, hR.f4.k, hR.f5.k, hR.f6.k, hR.f7.k, hR.f8.k, (fun _ => rfl), hR.f10.k, hR.f11.k, hR.f12.k, hR.f13.k, hR.f14.k, (fun _ => rfl), hR.f16.k, hR.f17.k, hR.f18.k, hR.f19.k⟩⟩
              refine EachOf.cons [9, 14, 15] rfl (by kernel_rfl) ?_ ?_
              · rintro L A W ⟨v, rfl, hR⟩ hi hw K hK
                have e14 := hR.f14 (hw 14 (by simp))
                have e15 := hR.f15 (hw 15 (by simp))
                have e9 := hR.f9 (hw 9 (by simp))
                simp only [e14, e15, e9]
                clear e14 e15 e9
                go_simp
                refine hK.out _ _ ?_
                exact ⟨(fun jz => if jz = 31 then .slice (some ⟨lg, lo, none⟩) (N) (lc) else if jz = 32 then .int .i64 (j : Int) else if jz = 26 then .bool false else if jz = 33 then .pointer (some ⟨lg, lo + j, none⟩) else v jz), rfl, ⟨hR.st, hR.w2.o, hR.w3.o, hR.w6.o, hR.w7.o, hR.w8.o, hR.w9.o, hR.w10.o, hR.w11.o, hR.w12.o, hR.w13.o, hR.w14.o, hR.w15.o, (fun _ j hj => upd_on (hw j hj)), hR.w17.o, hR.w18.o, hR.w19.o, hR.f0.k, hR.f1.k, hR.f2.k, hR.f3.k, hR.f4.k, hR.f5.k, hR.f6.k, hR.f7.k, hR.f8.k, (fun _ => rfl), hR.f10.k, hR.f11.k, hR.f12.k, hR.f13.k, (fun _ => rfl), (fun _ => rfl), (fun _ => rfl), hR.f17.k, hR.f18.k, hR.f19.k⟩⟩
              refine EachOf.cons [9, 16] rfl (by kernel_rfl) ?_ ?_
              · rintro L A W ⟨v, rfl, hR⟩ hi hw K hK
                have e16 := hR.f16 (hw 16 (by simp))
                have e9 := hR.f9 (hw 9 (by simp))
                simp only [e16, e9]
                clear e16 e9
                have q0 := (hR.st.cell (p := ⟨lg, lo + j, none⟩) LX.out.2).trans LX.out.1
                go_simp
                refine hK.out _ _ ?_
                exact ⟨(fun jz => if jz = 33 then .pointer (some ⟨lg, lo + j, none⟩) else if jz = 26 then .bool false else if jz = 34 then .slice xa x.length xc else v jz), rfl, ⟨hR.st, hR.w2.o, hR.w3.o, hR.w6.o, hR.w7.o, hR.w8.o, hR.w9.o, hR.w10.o, hR.w11.o, hR.w12.o, hR.w13.o, hR.w14.o, hR.w15.o, hR.w16.o, (fun _ j hj => upd_on (hw j hj)), hR.w18.o, hR.w19.o, hR.f0.k, hR.f1.k, hR.f2.k, hR.f3.k, hR.f4.k, hR.f5.k, hR.f6.k, hR.f7.k, hR.f8.k, (fun _ => rfl), hR.f10.k, hR.f11.k, hR.f12.k, hR.f13.k, hR.f14.k, hR.f15.k, (fun _ => rfl), (fun _ => rfl), hR.f18.k, hR.f19.k⟩⟩
              refine EachOf.cons [9, 13, 17] rfl (by kernel_rfl) ?_ ?_
              · rintro L A W ⟨v, rfl, hR⟩ hi hw K hK
                have e13 := hR.f13 (hw 13 (by simp))
                have e17 := hR.f17 (hw 17 (by simp))
                have e9 := hR.f9 (hw 9 (by simp))
                simp only [e13, e17, e9]
                clear e13 e17 e9
                go_simp
                go_at_call 30
                (with_reducible refine ((C2 _ hR.st).out).mono ?_)
                rintro e w2 ⟨rfl, hb⟩
                go_simp
                refine hK.out _ _ ?_
                exact ⟨(fun jz => if jz = 30 then .slice ya y.length yc else if jz = 34 then .slice xa x.length xc else if jz = 26 then .bool false else if jz = 35 then .bool false else v jz), rfl, ⟨below_on hR.st hb, hR.w2.o, hR.w3.o, hR.w6.o, hR.w7.o, hR.w8.o, hR.w9.o, hR.w10.o, hR.w11.o, hR.w12.o, hR.w13.o, hR.w14.o, hR.w15.o, hR.w16.o, hR.w17.o, (fun _ j hj => upd_on (hw j hj)), hR.w19.o, hR.f0.k, hR.f1.k, hR.f2.k, hR.f3.k, hR.f4.k, hR.f5.k, hR.f6.k, hR.f7.k, hR.f8.k, (fun _ => rfl), hR.f10.k, hR.f11.k, hR.f12.k, (fun _ => rfl), hR.f14.k, hR.f15.k, hR.f16.k, (fun _ => rfl), (fun _ => rfl), hR.f19.k⟩⟩
              refine EachOf.cons [9, 18] rfl (by kernel_rfl) ?_ ?_
              · rintro L A W ⟨v, rfl, hR⟩ hi hw K hK
                have e9 := hR.f9 (hw 9 (by simp))
                have e18 := hR.f18 (hw 18 (by simp))
                simp only [e9, e18]
                clear e9 e18
                go_simp
                refine hK.out _ _ ?_
                exact ⟨(fun jz => if jz = 26 then .bool false else if jz = 35 then .bool false else if jz = 36 then .bool false else v jz), rfl, ⟨hR.st, hR.w2.o, hR.w3.o, hR.w6.o, hR.w7.o, hR.w8.o, hR.w9.o, hR.w10.o, hR.w11.o, hR.w12.o, hR.w13.o, hR.w14.o, hR.w15.o, hR.w16.o, hR.w17.o, hR.w18.o, (fun _ j hj => upd_on (hw j hj)), hR.f0.k, hR.f1.k, hR.f2.k, hR.f3.k, hR.f4.k, hR.f5.k, hR.f6.k, hR.f7.k, hR.f8.k, (fun _ => rfl), hR.f10.k, hR.f11.k, hR.f12.k, hR.f13.k, hR.f14.k, hR.f15.k, hR.f16.k, hR.f17.k, (fun _ => rfl), (fun _ => rfl)⟩⟩
              exact EachOf.nil
            rintro L A W ⟨v, rfl, hR⟩ hL
            have hst := hR.st
            have e19 := hR.f19 (hL 19 (by simp))
            simp only [e19]
            have T : Hid ((∀ i, i < j + 1 → ls.getD i [] = ms.getD i []) ∧ Below w.heap.size w W) := ⟨HQ.out, below_on S.out.2 hst⟩
            clear e19 hst hR hL LX LY S HQ
            go_wp2_with fail
            go_roundg (N - (j + 1))
            case measure => omega
            case rel => exact ⟨j + 1, rfl, rfl, by omega, T⟩
      · have e : j = N := by omega
        subst e
        have he := lists_eq (ls := ls) (ms := ms) HLEN.out [] (fun i hi => S.out.1 i (by rw [HN.out]; exact hi))
        have HF := Lib.hid he
        clear he
        go_wp2_with fail
        go_ret
        exact ⟨by rw [decide_eq_true HF.out]; rfl, S.out.2⟩
  · have hne : ((ls.length : Int) != (ms.length : Int)) = true := by simp; omega
    have hne2 : ¬ ls.length = ms.length := hlen
    have HF : Hid (ls ≠ ms) := fun e => hlen (by rw [e])
    clear hl hm hb1 hb2
    go_enter Tryd.func13, Tryd.ntmps13
    go_wp2_with fail
    go_ret
    exact ⟨by rw [decide_eq_false HF.out]; rfl, Below.refl _ _⟩
end Go.Proofs.YtjonhhmapbibaaaDoor
