/- Layer 7's reference: Earlier. -/
import Derived.Test.YtjonhhmapbibaaaDoorURef
namespace Go.Proofs.YtjonhhmapbibaaaDoor
open Go.ChangeShapes Go.WideShapes Go.ChangeAt Go.RowKit Go.Joins Go.Deep Go.Shelf
set_option linter.unusedVariables false

/-- A list of indices that is read. -/
def Idx (W : World) (ra : Option Addr) (l : List Nat) : Prop := IRow W ra l.length (fun j => ((l.getD j 0 : Nat) : Int))
theorem Idx.on {W W2 : World} {ra : Option Addr} {l : List Nat} (h : Idx W ra l) (hb : Below W.heap.size W W2) : Idx W2 ra l := IRow.on h hb
theorem own_idx {W : World} {base : Nat} {pa : Option Addr} {pc : Nat} {l : List Nat} (h : W.ownsRow base 3 1 (.slice pa l.length pc) l.length (l.map fun i => Value.int .i64 (i : Nat))) : Idx W pa l := fun hn => by
  rcases h.2 with ⟨_, h0⟩ | ⟨g, cap, cur, hv, hb, hg, hc, _⟩
  · omega
  · injection hv with e1 e2 e3
    subst e1
    refine ⟨g, 0, rfl, (Array.getElem?_eq_some_iff.1 hg).1, fun j hj => ?_⟩
    have := h.cells (g := g) (by rfl) j (.int .i64 ((l.getD j 0 : Nat) : Int)) (by
      rw [List.getElem?_map, List.getElem?_eq_getElem hj, List.getD_eq_getElem?_getD, List.getElem?_eq_getElem hj]; rfl)
    rwa [show (⟨g, 0, none⟩ : Addr).add j = ⟨g, 0 + j, none⟩ by unfold Addr.add; split <;> simp_all] at this
theorem earl_end {l m : List Nat} {j : Nat} (h1 : j ≤ l.length) (h2 : j ≤ m.length) (h : ¬ (j < l.length ∧ j < m.length)) : earl (l.drop j) (m.drop j) = decide (l.length < m.length) := by
  by_cases q : j < l.length
  · have e : j = m.length := by omega
    rw [e, List.drop_length, List.drop_eq_getElem_cons (by omega), decide_eq_false (by omega)]
    rfl
  · have e : j = l.length := by omega
    rw [e, List.drop_length]
    by_cases z : j < m.length
    · rw [List.drop_eq_getElem_cons (by omega), decide_eq_true (by omega)]
      rfl
    · rw [List.drop_of_length_le (by omega), decide_eq_false (by omega)]
      rfl
theorem earl_at {l m : List Nat} {j : Nat} (h1 : j < l.length) (h2 : j < m.length) : earl (l.drop j) (m.drop j) = if l.getD j 0 = m.getD j 0 then earl (l.drop (j + 1)) (m.drop (j + 1)) else decide (l.getD j 0 < m.getD j 0) := by
  rw [List.drop_eq_getElem_cons h1, List.drop_eq_getElem_cons h2, List.getD_eq_getElem?_getD, List.getD_eq_getElem?_getD, List.getElem?_eq_getElem h1, List.getElem?_eq_getElem h2]
  rfl

structure EarR (lg lo N lc mg mo M mc j x y : Nat) (bl : Bool) (Wc : World) (L : Nat → Bool) (v : Nat → Value) (W : World) : Prop where
  st : Below Wc.heap.size Wc W
  w2 : Had L 2 (∀ j ∈ [0, 1], L j = true)
  w3 : Had L 3 (∀ j ∈ [2], L j = true)
  w6 : Had L 6 (∀ j ∈ [4, 5], L j = true)
  w7 : Had L 7 (∀ j ∈ [6], L j = true)
  w8 : Had L 8 (∀ j ∈ [3, 7], L j = true)
  f0 : Had L 0 (v 18 = .slice (some ⟨lg, lo, none⟩) (N) (lc))
  f1 : Had L 1 (v 19 = .int .i64 (j : Int))
  f2 : Had L 2 (v 20 = .pointer (some ⟨lg, lo + j, none⟩))
  f3 : Had L 3 (v 21 = .int .i64 (x : Int))
  f4 : Had L 4 (v 22 = .slice (some ⟨mg, mo, none⟩) (M) (mc))
  f5 : Had L 5 (v 23 = .int .i64 (j : Int))
  f6 : Had L 6 (v 24 = .pointer (some ⟨mg, mo + j, none⟩))
  f7 : Had L 7 (v 25 = .int .i64 (y : Int))
  f8 : Had L 8 (v 26 = .bool bl)
structure EaqR (lg lo N lc mg mo M mc j x y : Nat) (bl : Bool) (Wc : World) (L : Nat → Bool) (v : Nat → Value) (W : World) : Prop where
  st : Below Wc.heap.size Wc W
  w2 : Had L 2 (∀ j ∈ [0, 1], L j = true)
  w3 : Had L 3 (∀ j ∈ [2], L j = true)
  w6 : Had L 6 (∀ j ∈ [4, 5], L j = true)
  w7 : Had L 7 (∀ j ∈ [6], L j = true)
  w8 : Had L 8 (∀ j ∈ [3, 7], L j = true)
  w9 : Had L 9 (∀ j ∈ [8], L j = true)
  f0 : Had L 0 (v 27 = .slice (some ⟨lg, lo, none⟩) (N) (lc))
  f1 : Had L 1 (v 28 = .int .i64 (j : Int))
  f2 : Had L 2 (v 29 = .pointer (some ⟨lg, lo + j, none⟩))
  f3 : Had L 3 (v 30 = .int .i64 (x : Int))
  f4 : Had L 4 (v 31 = .slice (some ⟨mg, mo, none⟩) (M) (mc))
  f5 : Had L 5 (v 32 = .int .i64 (j : Int))
  f6 : Had L 6 (v 33 = .pointer (some ⟨mg, mo + j, none⟩))
  f7 : Had L 7 (v 34 = .int .i64 (y : Int))
  f8 : Had L 8 (v 35 = .bool bl)
  f9 : Had L 9 (v 4 = .bool bl)
set_option maxRecDepth 100000 in
set_option maxHeartbeats 8000000 in
theorem Earlier_any (la : Option Addr) (lc : Nat) (l : List Nat) (ma : Option Addr) (mc : Nat) (m : List Nat) (w : World) (hl : Idx w la l) (hm : Idx w ma m) (n1 : l.length ≤ 1000) (n2 : m.length ≤ 1000) :
    Calls Tryd.prog 30 #[.slice la l.length lc, .slice ma m.length mc] w fun e w' => e = .returned (.bool (earl l m)) ∧ Below w.heap.size w w' := by
  have HL := Lib.hid hl
  have HM := Lib.hid hm
  have S0 : Hid (earl l m = earl (l.drop 0) (m.drop 0) ∧ Below w.heap.size w w) := ⟨rfl, Below.refl _ _⟩
  obtain ⟨N, hN⟩ : ∃ N, N = l.length := ⟨_, rfl⟩
  obtain ⟨M, hM⟩ : ∃ M, M = m.length := ⟨_, rfl⟩
  rw [← hN, ← hM]
  have HNM := Lib.hid (And.intro hN hM)
  rw [← hN] at n1
  rw [← hM] at n2
  clear hl hm hN hM
  go_enter Tryd.func30, Tryd.ntmps30
  go_wp2_with fail
  go_loopg [5] N (fun g s5 wx => ∃ j : Nat, s5 = .int .i64 j ∧ g = N - j ∧ j ≤ N ∧ j ≤ M ∧ Hid (earl l m = earl (l.drop j) (m.drop j) ∧ Below w.heap.size w wx))
  case atStart => exact ⟨0, rfl, rfl, Nat.zero_le _, Nat.zero_le _, S0⟩
  case round =>
    clear S0
    obtain ⟨j, rfl, rfl, hj1, hj2, S⟩ := hrel
    rename World => W1
    by_cases hlt : j < N ∧ j < M
    · obtain ⟨h1, h2⟩ := hlt
      have wk : IntKind.i64.wrap ((j : Int) + 1) = ((j + 1 : Nat) : Int) := by rw [IntWalk.i64_in _ (by omega)]; omega
      have l1 : (j : Int) < (N : Int) := by omega
      have l2 : (j : Int) < (M : Int) := by omega
      have HE := Lib.hid (earl_at (l := l) (m := m) (j := j) (by rw [← HNM.out.1]; omega) (by rw [← HNM.out.2]; omega))
      obtain ⟨lg, lo, rfl, hlg, hlc⟩ := (HL.out.on S.out.2) (by rw [← HNM.out.1]; omega)
      obtain ⟨mg, mo, rfl, hmg, hmc⟩ := (HM.out.on S.out.2) (by rw [← HNM.out.2]; omega)
      obtain ⟨x, hx⟩ : ∃ x, l.getD j 0 = x := ⟨_, rfl⟩
      obtain ⟨y, hy⟩ : ∃ y, m.getD j 0 = y := ⟨_, rfl⟩
      have LX : Hid (W1.cell? ⟨lg, lo + j, none⟩ = some (.int .i64 (x : Int)) ∧ lg < W1.heap.size) := ⟨by rw [← hx]; exact hlc j (by rw [← HNM.out.1]; omega), hlg⟩
      have LY : Hid (W1.cell? ⟨mg, mo + j, none⟩ = some (.int .i64 (y : Int)) ∧ mg < W1.heap.size) := ⟨by rw [← hy]; exact hmc j (by rw [← HNM.out.2]; omega), hmg⟩
      rw [hx, hy] at HE
      clear hlg hlc hmg hmc hx hy
      by_cases he : x = y
      · have qb : ((x : Int) != (y : Int)) = false := by rw [he]; simp
        have HT : Hid (earl l m = earl (l.drop (j + 1)) (m.drop (j + 1))) := by
          show _ = _
          rw [S.out.1, HE.out, if_pos he]
        clear he
        go_upto_region 4 with fail
        refine wp_region_each (fun L A W => ∃ (v : Nat → Value), A = ⟨#[_, _, _, _, _, _, _, _, _, _, _, _, _, _, _, _, _, _, v 18, v 19, v 20, v 21, v 22, v 23, v 24, v 25, v 26, _, _, _, _, _, _, _, _, _, _, _, _, _, _], []⟩ ∧ EarR lg lo N lc mg mo M mc j x y false W1 L v W) (by kernel_rfl) (by kernel_rfl) ⟨fun jz => if jz = 18 then u18 else if jz = 19 then u19 else if jz = 20 then u20 else if jz = 21 then u21 else if jz = 22 then u22 else if jz = 23 then u23 else if jz = 24 then u24 else if jz = 25 then u25 else if jz = 26 then u26 else undef, rfl, ⟨Below.drew (Below.refl _ _), Had.none, Had.none, Had.none, Had.none, Had.none, Had.none, Had.none, Had.none, Had.none, Had.none, Had.none, Had.none, Had.none, Had.none⟩⟩ (rs := [0, 1, 2, 3, 4, 5, 6, 7, 8]) (by kernel_rfl) ?_ ?_
        · refine EachOf.cons [] rfl (by kernel_rfl) ?_ ?_
          · rintro L A W ⟨v, rfl, hR⟩ hi hw K hK
            go_simp
            refine hK.out _ _ ?_
            exact ⟨(fun jz => if jz = 18 then .slice (some ⟨lg, lo, none⟩) (N) (lc) else v jz), rfl, ⟨hR.st, hR.w2.o, hR.w3.o, hR.w6.o, hR.w7.o, hR.w8.o, (fun _ => rfl), hR.f1.k, hR.f2.k, hR.f3.k, hR.f4.k, hR.f5.k, hR.f6.k, hR.f7.k, hR.f8.k⟩⟩
          refine EachOf.cons [] rfl (by kernel_rfl) ?_ ?_
          · rintro L A W ⟨v, rfl, hR⟩ hi hw K hK
            go_simp
            refine hK.out _ _ ?_
            exact ⟨(fun jz => if jz = 19 then .int .i64 (j : Int) else v jz), rfl, ⟨hR.st, hR.w2.o, hR.w3.o, hR.w6.o, hR.w7.o, hR.w8.o, hR.f0.k, (fun _ => rfl), hR.f2.k, hR.f3.k, hR.f4.k, hR.f5.k, hR.f6.k, hR.f7.k, hR.f8.k⟩⟩
          refine EachOf.cons [0, 1] rfl (by kernel_rfl) ?_ ?_
          · rintro L A W ⟨v, rfl, hR⟩ hi hw K hK
            have e0 := hR.f0 (hw 0 (by simp))
            have e1 := hR.f1 (hw 1 (by simp))
            simp only [e0, e1]
            clear e0 e1
            go_simp
            refine hK.out _ _ ?_
            exact ⟨(fun jz => if jz = 18 then .slice (some ⟨lg, lo, none⟩) (N) (lc) else if jz = 19 then .int .i64 (j : Int) else if jz = 20 then .pointer (some ⟨lg, lo + j, none⟩) else v jz), rfl, ⟨hR.st, (fun _ j hj => upd_on (hw j hj)), hR.w3.o, hR.w6.o, hR.w7.o, hR.w8.o, (fun _ => rfl), (fun _ => rfl), (fun _ => rfl), hR.f3.k, hR.f4.k, hR.f5.k, hR.f6.k, hR.f7.k, hR.f8.k⟩⟩
          refine EachOf.cons [2] rfl (by kernel_rfl) ?_ ?_
          · rintro L A W ⟨v, rfl, hR⟩ hi hw K hK
            have e2 := hR.f2 (hw 2 (by simp))
            simp only [e2]
            clear e2
            have q0 := (hR.st.cell (p := ⟨lg, lo + j, none⟩) LX.out.2).trans LX.out.1
            go_simp
            refine hK.out _ _ ?_
            exact ⟨(fun jz => if jz = 20 then .pointer (some ⟨lg, lo + j, none⟩) else if jz = 21 then .int .i64 (x : Int) else v jz), rfl, ⟨hR.st, hR.w2.o, (fun _ j hj => upd_on (hw j hj)), hR.w6.o, hR.w7.o, hR.w8.o, hR.f0.k, hR.f1.k, (fun _ => rfl), (fun _ => rfl), hR.f4.k, hR.f5.k, hR.f6.k, hR.f7.k, hR.f8.k⟩⟩
          refine EachOf.cons [] rfl (by kernel_rfl) ?_ ?_
          · rintro L A W ⟨v, rfl, hR⟩ hi hw K hK
            go_simp
            refine hK.out _ _ ?_
            exact ⟨(fun jz => if jz = 22 then .slice (some ⟨mg, mo, none⟩) (M) (mc) else v jz), rfl, ⟨hR.st, hR.w2.o, hR.w3.o, hR.w6.o, hR.w7.o, hR.w8.o, hR.f0.k, hR.f1.k, hR.f2.k, hR.f3.k, (fun _ => rfl), hR.f5.k, hR.f6.k, hR.f7.k, hR.f8.k⟩⟩
          refine EachOf.cons [] rfl (by kernel_rfl) ?_ ?_
          · rintro L A W ⟨v, rfl, hR⟩ hi hw K hK
            go_simp
            refine hK.out _ _ ?_
            exact ⟨(fun jz => if jz = 23 then .int .i64 (j : Int) else v jz), rfl, ⟨hR.st, hR.w2.o, hR.w3.o, hR.w6.o, hR.w7.o, hR.w8.o, hR.f0.k, hR.f1.k, hR.f2.k, hR.f3.k, hR.f4.k, (fun _ => rfl), hR.f6.k, hR.f7.k, hR.f8.k⟩⟩
          refine EachOf.cons [4, 5] rfl (by kernel_rfl) ?_ ?_
          · rintro L A W ⟨v, rfl, hR⟩ hi hw K hK
            have e4 := hR.f4 (hw 4 (by simp))
            have e5 := hR.f5 (hw 5 (by simp))
            simp only [e4, e5]
            clear e4 e5
            go_simp
            refine hK.out _ _ ?_
            exact ⟨(fun jz => if jz = 22 then .slice (some ⟨mg, mo, none⟩) (M) (mc) else if jz = 23 then .int .i64 (j : Int) else if jz = 24 then .pointer (some ⟨mg, mo + j, none⟩) else v jz), rfl, ⟨hR.st, hR.w2.o, hR.w3.o, (fun _ j hj => upd_on (hw j hj)), hR.w7.o, hR.w8.o, hR.f0.k, hR.f1.k, hR.f2.k, hR.f3.k, (fun _ => rfl), (fun _ => rfl), (fun _ => rfl), hR.f7.k, hR.f8.k⟩⟩
          refine EachOf.cons [6] rfl (by kernel_rfl) ?_ ?_
          · rintro L A W ⟨v, rfl, hR⟩ hi hw K hK
            have e6 := hR.f6 (hw 6 (by simp))
            simp only [e6]
            clear e6
            have q0 := (hR.st.cell (p := ⟨mg, mo + j, none⟩) LY.out.2).trans LY.out.1
            go_simp
            refine hK.out _ _ ?_
            exact ⟨(fun jz => if jz = 24 then .pointer (some ⟨mg, mo + j, none⟩) else if jz = 25 then .int .i64 (y : Int) else v jz), rfl, ⟨hR.st, hR.w2.o, hR.w3.o, hR.w6.o, (fun _ j hj => upd_on (hw j hj)), hR.w8.o, hR.f0.k, hR.f1.k, hR.f2.k, hR.f3.k, hR.f4.k, hR.f5.k, (fun _ => rfl), (fun _ => rfl), hR.f8.k⟩⟩
          refine EachOf.cons [3, 7] rfl (by kernel_rfl) ?_ ?_
          · rintro L A W ⟨v, rfl, hR⟩ hi hw K hK
            have e3 := hR.f3 (hw 3 (by simp))
            have e7 := hR.f7 (hw 7 (by simp))
            simp only [e3, e7]
            clear e3 e7
            go_simp
            refine hK.out _ _ ?_
            exact ⟨(fun jz => if jz = 21 then .int .i64 (x : Int) else if jz = 25 then .int .i64 (y : Int) else if jz = 26 then .bool false else v jz), rfl, ⟨hR.st, hR.w2.o, hR.w3.o, hR.w6.o, hR.w7.o, (fun _ j hj => upd_on (hw j hj)), hR.f0.k, hR.f1.k, hR.f2.k, (fun _ => rfl), hR.f4.k, hR.f5.k, hR.f6.k, (fun _ => rfl), (fun _ => rfl)⟩⟩
          exact EachOf.nil
        rintro L A W ⟨v, rfl, hR⟩ hL
        have hst := hR.st
        have e8 := hR.f8 (hL 8 (by simp))
        simp only [e8]
        have T : Hid (earl l m = earl (l.drop (j + 1)) (m.drop (j + 1)) ∧ Below w.heap.size w W) := ⟨HT.out, below_on S.out.2 hst⟩
        clear e8 hst hR hL LX LY S HT HE
        go_wp2_with fail
        go_roundg (N - (j + 1))
        case measure => omega
        case rel => exact ⟨j + 1, rfl, rfl, by omega, by omega, T⟩
      · have qb : ((x : Int) != (y : Int)) = true := by simp; omega
        have ql : decide ((x : Int) < (y : Int)) = decide (x < y) := decide_eq_decide.2 (by omega)
        have HT : Hid (earl l m = decide (x < y)) := by
          show _ = _
          rw [S.out.1, HE.out, if_neg he]
        clear he
        obtain ⟨bl, hbl⟩ : ∃ b, decide (x < y) = b := ⟨_, rfl⟩
        rw [hbl] at ql HT
        go_upto_region 4 with fail
        refine wp_region_each (fun L A W => ∃ (v : Nat → Value), A = ⟨#[_, _, _, _, _, _, _, _, _, _, _, _, _, _, _, _, _, _, v 18, v 19, v 20, v 21, v 22, v 23, v 24, v 25, v 26, _, _, _, _, _, _, _, _, _, _, _, _, _, _], []⟩ ∧ EarR lg lo N lc mg mo M mc j x y true W1 L v W) (by kernel_rfl) (by kernel_rfl) ⟨fun jz => if jz = 18 then u18 else if jz = 19 then u19 else if jz = 20 then u20 else if jz = 21 then u21 else if jz = 22 then u22 else if jz = 23 then u23 else if jz = 24 then u24 else if jz = 25 then u25 else if jz = 26 then u26 else undef, rfl, ⟨Below.drew (Below.refl _ _), Had.none, Had.none, Had.none, Had.none, Had.none, Had.none, Had.none, Had.none, Had.none, Had.none, Had.none, Had.none, Had.none, Had.none⟩⟩ (rs := [0, 1, 2, 3, 4, 5, 6, 7, 8]) (by kernel_rfl) ?_ ?_
        · refine EachOf.cons [] rfl (by kernel_rfl) ?_ ?_
          · rintro L A W ⟨v, rfl, hR⟩ hi hw K hK
            go_simp
            refine hK.out _ _ ?_
            exact ⟨(fun jz => if jz = 18 then .slice (some ⟨lg, lo, none⟩) (N) (lc) else v jz), rfl, ⟨hR.st, hR.w2.o, hR.w3.o, hR.w6.o, hR.w7.o, hR.w8.o, (fun _ => rfl), hR.f1.k, hR.f2.k, hR.f3.k, hR.f4.k, hR.f5.k, hR.f6.k, hR.f7.k, hR.f8.k⟩⟩
          refine EachOf.cons [] rfl (by kernel_rfl) ?_ ?_
          · rintro L A W ⟨v, rfl, hR⟩ hi hw K hK
            go_simp
            refine hK.out _ _ ?_
            exact ⟨(fun jz => if jz = 19 then .int .i64 (j : Int) else v jz), rfl, ⟨hR.st, hR.w2.o, hR.w3.o, hR.w6.o, hR.w7.o, hR.w8.o, hR.f0.k, (fun _ => rfl), hR.f2.k, hR.f3.k, hR.f4.k, hR.f5.k, hR.f6.k, hR.f7.k, hR.f8.k⟩⟩
          refine EachOf.cons [0, 1] rfl (by kernel_rfl) ?_ ?_
          · rintro L A W ⟨v, rfl, hR⟩ hi hw K hK
            have e0 := hR.f0 (hw 0 (by simp))
            have e1 := hR.f1 (hw 1 (by simp))
            simp only [e0, e1]
            clear e0 e1
            go_simp
            refine hK.out _ _ ?_
            exact ⟨(fun jz => if jz = 18 then .slice (some ⟨lg, lo, none⟩) (N) (lc) else if jz = 19 then .int .i64 (j : Int) else if jz = 20 then .pointer (some ⟨lg, lo + j, none⟩) else v jz), rfl, ⟨hR.st, (fun _ j hj => upd_on (hw j hj)), hR.w3.o, hR.w6.o, hR.w7.o, hR.w8.o, (fun _ => rfl), (fun _ => rfl), (fun _ => rfl), hR.f3.k, hR.f4.k, hR.f5.k, hR.f6.k, hR.f7.k, hR.f8.k⟩⟩
          refine EachOf.cons [2] rfl (by kernel_rfl) ?_ ?_
          · rintro L A W ⟨v, rfl, hR⟩ hi hw K hK
            have e2 := hR.f2 (hw 2 (by simp))
            simp only [e2]
            clear e2
            have q0 := (hR.st.cell (p := ⟨lg, lo + j, none⟩) LX.out.2).trans LX.out.1
            go_simp
            refine hK.out _ _ ?_
            exact ⟨(fun jz => if jz = 20 then .pointer (some ⟨lg, lo + j, none⟩) else if jz = 21 then .int .i64 (x : Int) else v jz), rfl, ⟨hR.st, hR.w2.o, (fun _ j hj => upd_on (hw j hj)), hR.w6.o, hR.w7.o, hR.w8.o, hR.f0.k, hR.f1.k, (fun _ => rfl), (fun _ => rfl), hR.f4.k, hR.f5.k, hR.f6.k, hR.f7.k, hR.f8.k⟩⟩
          refine EachOf.cons [] rfl (by kernel_rfl) ?_ ?_
          · rintro L A W ⟨v, rfl, hR⟩ hi hw K hK
            go_simp
            refine hK.out _ _ ?_
            exact ⟨(fun jz => if jz = 22 then .slice (some ⟨mg, mo, none⟩) (M) (mc) else v jz), rfl, ⟨hR.st, hR.w2.o, hR.w3.o, hR.w6.o, hR.w7.o, hR.w8.o, hR.f0.k, hR.f1.k, hR.f2.k, hR.f3.k, (fun _ => rfl), hR.f5.k, hR.f6.k, hR.f7.k, hR.f8.k⟩⟩
          refine EachOf.cons [] rfl (by kernel_rfl) ?_ ?_
          · rintro L A W ⟨v, rfl, hR⟩ hi hw K hK
            go_simp
            refine hK.out _ _ ?_
            exact ⟨(fun jz => if jz = 23 then .int .i64 (j : Int) else v jz), rfl, ⟨hR.st, hR.w2.o, hR.w3.o, hR.w6.o, hR.w7.o, hR.w8.o, hR.f0.k, hR.f1.k, hR.f2.k, hR.f3.k, hR.f4.k, (fun _ => rfl), hR.f6.k, hR.f7.k, hR.f8.k⟩⟩
          refine EachOf.cons [4, 5] rfl (by kernel_rfl) ?_ ?_
          · rintro L A W ⟨v, rfl, hR⟩ hi hw K hK
            have e4 := hR.f4 (hw 4 (by simp))
            have e5 := hR.f5 (hw 5 (by simp))
            simp only [e4, e5]
            clear e4 e5
            go_simp
            refine hK.out _ _ ?_
            exact ⟨(fun jz => if jz = 22 then .slice (some ⟨mg, mo, none⟩) (M) (mc) else if jz = 23 then .int .i64 (j : Int) else if jz = 24 then .pointer (some ⟨mg, mo + j, none⟩) else v jz), rfl, ⟨hR.st, hR.w2.o, hR.w3.o, (fun _ j hj => upd_on (hw j hj)), hR.w7.o, hR.w8.o, hR.f0.k, hR.f1.k, hR.f2.k, hR.f3.k, (fun _ => rfl), (fun _ => rfl), (fun _ => rfl), hR.f7.k, hR.f8.k⟩⟩
          refine EachOf.cons [6] rfl (by kernel_rfl) ?_ ?_
          · rintro L A W ⟨v, rfl, hR⟩ hi hw K hK
            have e6 := hR.f6 (hw 6 (by simp))
            simp only [e6]
            clear e6
            have q0 := (hR.st.cell (p := ⟨mg, mo + j, none⟩) LY.out.2).trans LY.out.1
            go_simp
            refine hK.out _ _ ?_
            exact ⟨(fun jz => if jz = 24 then .pointer (some ⟨mg, mo + j, none⟩) else if jz = 25 then .int .i64 (y : Int) else v jz), rfl, ⟨hR.st, hR.w2.o, hR.w3.o, hR.w6.o, (fun _ j hj => upd_on (hw j hj)), hR.w8.o, hR.f0.k, hR.f1.k, hR.f2.k, hR.f3.k, hR.f4.k, hR.f5.k, (fun _ => rfl), (fun _ => rfl), hR.f8.k⟩⟩
          refine EachOf.cons [3, 7] rfl (by kernel_rfl) ?_ ?_
          · rintro L A W ⟨v, rfl, hR⟩ hi hw K hK
            have e3 := hR.f3 (hw 3 (by simp))
            have e7 := hR.f7 (hw 7 (by simp))
            simp only [e3, e7]
            clear e3 e7
            go_simp
            refine hK.out _ _ ?_
            exact ⟨(fun jz => if jz = 21 then .int .i64 (x : Int) else if jz = 25 then .int .i64 (y : Int) else if jz = 26 then .bool true else v jz), rfl, ⟨hR.st, hR.w2.o, hR.w3.o, hR.w6.o, hR.w7.o, (fun _ j hj => upd_on (hw j hj)), hR.f0.k, hR.f1.k, hR.f2.k, (fun _ => rfl), hR.f4.k, hR.f5.k, hR.f6.k, (fun _ => rfl), (fun _ => rfl)⟩⟩
          exact EachOf.nil
        rintro L A W3 ⟨v, rfl, hR⟩ hL
        have hst := hR.st
        have e8 := hR.f8 (hL 8 (by simp))
        simp only [e8]
        have HB := Lib.hid (below_on S.out.2 hst)
        have LX2 : Hid (W3.cell? ⟨lg, lo + j, none⟩ = some (.int .i64 (x : Int)) ∧ lg < W3.heap.size) := ⟨(hst.cell (p := ⟨lg, lo + j, none⟩) LX.out.2).trans LX.out.1, Nat.lt_of_lt_of_le LX.out.2 hst.size⟩
        have LY2 : Hid (W3.cell? ⟨mg, mo + j, none⟩ = some (.int .i64 (y : Int)) ∧ mg < W3.heap.size) := ⟨(hst.cell (p := ⟨mg, mo + j, none⟩) LY.out.2).trans LY.out.1, Nat.lt_of_lt_of_le LY.out.2 hst.size⟩
        clear e8 hst hR hL S HE LX LY
        go_upto_region 5 with fail
        refine wp_region_each (fun L A W => ∃ (v : Nat → Value), A = ⟨#[_, _, _, _, v 4, _, _, _, _, _, _, _, _, _, _, _, _, _, _, _, _, _, _, _, _, _, _, v 27, v 28, v 29, v 30, v 31, v 32, v 33, v 34, v 35, _, _, _, _, _], []⟩ ∧ EaqR lg lo N lc mg mo M mc j x y bl W3 L v W) (by kernel_rfl) (by kernel_rfl) ⟨fun jz => if jz = 27 then u27 else if jz = 28 then u28 else if jz = 29 then u29 else if jz = 30 then u30 else if jz = 31 then u31 else if jz = 32 then u32 else if jz = 33 then u33 else if jz = 34 then u34 else if jz = 35 then u35 else if jz = 4 then u4 else undef, rfl, ⟨Below.drew (Below.refl _ _), Had.none, Had.none, Had.none, Had.none, Had.none, Had.none, Had.none, Had.none, Had.none, Had.none, Had.none, Had.none, Had.none, Had.none, Had.none, Had.none⟩⟩ (rs := [0, 1, 2, 3, 4, 5, 6, 7, 8, 9]) (by kernel_rfl) ?_ ?_
        · refine EachOf.cons [] rfl (by kernel_rfl) ?_ ?_
          · rintro L A W ⟨v, rfl, hR⟩ hi hw K hK
            go_simp
            refine hK.out _ _ ?_
            exact ⟨(fun jz => if jz = 27 then .slice (some ⟨lg, lo, none⟩) (N) (lc) else v jz), rfl, ⟨hR.st, hR.w2.o, hR.w3.o, hR.w6.o, hR.w7.o, hR.w8.o, hR.w9.o, (fun _ => rfl), hR.f1.k, hR.f2.k, hR.f3.k, hR.f4.k, hR.f5.k, hR.f6.k, hR.f7.k, hR.f8.k, hR.f9.k⟩⟩
          refine EachOf.cons [] rfl (by kernel_rfl) ?_ ?_
          · rintro L A W ⟨v, rfl, hR⟩ hi hw K hK
            go_simp
            refine hK.out _ _ ?_
            exact ⟨(fun jz => if jz = 28 then .int .i64 (j : Int) else v jz), rfl, ⟨hR.st, hR.w2.o, hR.w3.o, hR.w6.o, hR.w7.o, hR.w8.o, hR.w9.o, hR.f0.k, (fun _ => rfl), hR.f2.k, hR.f3.k, hR.f4.k, hR.f5.k, hR.f6.k, hR.f7.k, hR.f8.k, hR.f9.k⟩⟩
          refine EachOf.cons [0, 1] rfl (by kernel_rfl) ?_ ?_
          · rintro L A W ⟨v, rfl, hR⟩ hi hw K hK
            have e0 := hR.f0 (hw 0 (by simp))
            have e1 := hR.f1 (hw 1 (by simp))
            simp only [e0, e1]
            clear e0 e1
            go_simp
            refine hK.out _ _ ?_
            exact ⟨(fun jz => if jz = 27 then .slice (some ⟨lg, lo, none⟩) (N) (lc) else if jz = 28 then .int .i64 (j : Int) else if jz = 29 then .pointer (some ⟨lg, lo + j, none⟩) else v jz), rfl, ⟨hR.st, (fun _ j hj => upd_on (hw j hj)), hR.w3.o, hR.w6.o, hR.w7.o, hR.w8.o, hR.w9.o, (fun _ => rfl), (fun _ => rfl), (fun _ => rfl), hR.f3.k, hR.f4.k, hR.f5.k, hR.f6.k, hR.f7.k, hR.f8.k, hR.f9.k⟩⟩
          refine EachOf.cons [2] rfl (by kernel_rfl) ?_ ?_
          · rintro L A W ⟨v, rfl, hR⟩ hi hw K hK
            have e2 := hR.f2 (hw 2 (by simp))
            simp only [e2]
            clear e2
            have q0 := (hR.st.cell (p := ⟨lg, lo + j, none⟩) LX2.out.2).trans LX2.out.1
            go_simp
            refine hK.out _ _ ?_
            exact ⟨(fun jz => if jz = 29 then .pointer (some ⟨lg, lo + j, none⟩) else if jz = 30 then .int .i64 (x : Int) else v jz), rfl, ⟨hR.st, hR.w2.o, (fun _ j hj => upd_on (hw j hj)), hR.w6.o, hR.w7.o, hR.w8.o, hR.w9.o, hR.f0.k, hR.f1.k, (fun _ => rfl), (fun _ => rfl), hR.f4.k, hR.f5.k, hR.f6.k, hR.f7.k, hR.f8.k, hR.f9.k⟩⟩
          refine EachOf.cons [] rfl (by kernel_rfl) ?_ ?_
          · rintro L A W ⟨v, rfl, hR⟩ hi hw K hK
            go_simp
            refine hK.out _ _ ?_
            exact ⟨(fun jz => if jz = 31 then .slice (some ⟨mg, mo, none⟩) (M) (mc) else v jz), rfl, ⟨hR.st, hR.w2.o, hR.w3.o, hR.w6.o, hR.w7.o, hR.w8.o, hR.w9.o, hR.f0.k, hR.f1.k, hR.f2.k, hR.f3.k, (fun _ => rfl), hR.f5.k, hR.f6.k, hR.f7.k, hR.f8.k, hR.f9.k⟩⟩
          refine EachOf.cons [] rfl (by kernel_rfl) ?_ ?_
          · rintro L A W ⟨v, rfl, hR⟩ hi hw K hK
            go_simp
            refine hK.out _ _ ?_
            exact ⟨(fun jz => if jz = 32 then .int .i64 (j : Int) else v jz), rfl, ⟨hR.st, hR.w2.o, hR.w3.o, hR.w6.o, hR.w7.o, hR.w8.o, hR.w9.o, hR.f0.k, hR.f1.k, hR.f2.k, hR.f3.k, hR.f4.k, (fun _ => rfl), hR.f6.k, hR.f7.k, hR.f8.k, hR.f9.k⟩⟩
          refine EachOf.cons [4, 5] rfl (by kernel_rfl) ?_ ?_
          · rintro L A W ⟨v, rfl, hR⟩ hi hw K hK
            have e4 := hR.f4 (hw 4 (by simp))
            have e5 := hR.f5 (hw 5 (by simp))
            simp only [e4, e5]
            clear e4 e5
            go_simp
            refine hK.out _ _ ?_
            exact ⟨(fun jz => if jz = 31 then .slice (some ⟨mg, mo, none⟩) (M) (mc) else if jz = 32 then .int .i64 (j : Int) else if jz = 33 then .pointer (some ⟨mg, mo + j, none⟩) else v jz), rfl, ⟨hR.st, hR.w2.o, hR.w3.o, (fun _ j hj => upd_on (hw j hj)), hR.w7.o, hR.w8.o, hR.w9.o, hR.f0.k, hR.f1.k, hR.f2.k, hR.f3.k, (fun _ => rfl), (fun _ => rfl), (fun _ => rfl), hR.f7.k, hR.f8.k, hR.f9.k⟩⟩
          refine EachOf.cons [6] rfl (by kernel_rfl) ?_ ?_
          · rintro L A W ⟨v, rfl, hR⟩ hi hw K hK
            have e6 := hR.f6 (hw 6 (by simp))
            simp only [e6]
            clear e6
            have q0 := (hR.st.cell (p := ⟨mg, mo + j, none⟩) LY2.out.2).trans LY2.out.1
            go_simp
            refine hK.out _ _ ?_
            exact ⟨(fun jz => if jz = 33 then .pointer (some ⟨mg, mo + j, none⟩) else if jz = 34 then .int .i64 (y : Int) else v jz), rfl, ⟨hR.st, hR.w2.o, hR.w3.o, hR.w6.o, (fun _ j hj => upd_on (hw j hj)), hR.w8.o, hR.w9.o, hR.f0.k, hR.f1.k, hR.f2.k, hR.f3.k, hR.f4.k, hR.f5.k, (fun _ => rfl), (fun _ => rfl), hR.f8.k, hR.f9.k⟩⟩
          refine EachOf.cons [3, 7] rfl (by kernel_rfl) ?_ ?_
          · rintro L A W ⟨v, rfl, hR⟩ hi hw K hK
            have e3 := hR.f3 (hw 3 (by simp))
            have e7 := hR.f7 (hw 7 (by simp))
            simp only [e3, e7]
            clear e3 e7
            go_simp
            refine hK.out _ _ ?_
            exact ⟨(fun jz => if jz = 30 then .int .i64 (x : Int) else if jz = 34 then .int .i64 (y : Int) else if jz = 35 then .bool bl else v jz), rfl, ⟨hR.st, hR.w2.o, hR.w3.o, hR.w6.o, hR.w7.o, (fun _ j hj => upd_on (hw j hj)), hR.w9.o, hR.f0.k, hR.f1.k, hR.f2.k, (fun _ => rfl), hR.f4.k, hR.f5.k, hR.f6.k, (fun _ => rfl), (fun _ => rfl), hR.f9.k⟩⟩
          refine EachOf.cons [8] rfl (by kernel_rfl) ?_ ?_
          · rintro L A W ⟨v, rfl, hR⟩ hi hw K hK
            have e8 := hR.f8 (hw 8 (by simp))
            simp only [e8]
            clear e8
            go_simp
            refine hK.out _ _ ?_
            exact ⟨(fun jz => if jz = 35 then .bool bl else if jz = 4 then .bool bl else v jz), rfl, ⟨hR.st, hR.w2.o, hR.w3.o, hR.w6.o, hR.w7.o, hR.w8.o, (fun _ j hj => upd_on (hw j hj)), hR.f0.k, hR.f1.k, hR.f2.k, hR.f3.k, hR.f4.k, hR.f5.k, hR.f6.k, hR.f7.k, (fun _ => rfl), (fun _ => rfl)⟩⟩
          exact EachOf.nil
        rintro L A W2 ⟨v, rfl, hR⟩ hL
        have hst := hR.st
        have e9 := hR.f9 (hL 9 (by simp))
        simp only [e9]
        have HB2 := Lib.hid (below_on HB.out hst)
        clear e9 hst hR hL
        go_wp2_with fail
        go_ret
        exact ⟨by rw [HT.out]; rfl, HB2.out⟩
    · have he := earl_end (l := l) (m := m) (j := j) (by rw [← HNM.out.1]; omega) (by rw [← HNM.out.2]; omega) (by rw [← HNM.out.1, ← HNM.out.2]; exact hlt)
      rw [← S.out.1, ← HNM.out.1, ← HNM.out.2] at he
      have HT := Lib.hid he
      clear he
      have ql : decide ((N : Int) < (M : Int)) = decide (N < M) := decide_eq_decide.2 (by omega)
      by_cases h1 : j < N
      · have h2 : ¬ (j : Int) < (M : Int) := by omega
        have h3 : (j : Int) < (N : Int) := by omega
        obtain ⟨bl, hbl⟩ : ∃ b, decide (N < M) = b := ⟨_, rfl⟩
        rw [hbl] at ql HT
        go_wp2_with fail
        go_ret
        exact ⟨by rw [HT.out]; rfl, S.out.2⟩
      · have h3 : ¬ (j : Int) < (N : Int) := by omega
        obtain ⟨bl, hbl⟩ : ∃ b, decide (N < M) = b := ⟨_, rfl⟩
        rw [hbl] at ql HT
        go_wp2_with fail
        go_ret
        exact ⟨by rw [HT.out]; rfl, S.out.2⟩
end Go.Proofs.YtjonhhmapbibaaaDoor
