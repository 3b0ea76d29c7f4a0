/- Layer 4: the reference's Eliminate. -/
import Derived.Test.YtjggnmbdgagkoaaLRCross
namespace Go.Proofs.Ytjggnmbdgagkoaa
set_option linter.unusedVariables false
open Go.RowKit Go.Shelf

theorem setCell_swap (w : World) (b i j : Nat) (x y : Value) (h : i ≠ j) : (w.setCell ⟨b, i, none⟩ x).setCell ⟨b, j, none⟩ y = (w.setCell ⟨b, j, none⟩ y).setCell ⟨b, i, none⟩ x := by
  unfold World.setCell
  simp only [Option.isSome_none, Bool.false_eq_true, if_false]
  congr 1
  apply Array.ext
  · simp
  · intro k h1 h2
    simp only [Array.getElem_modify]
    by_cases e : b = k
    · subst e
      simp only [if_true]
      have hk : b < w.heap.size := by simpa using h1
      cases w.heap[b] with
      | cells c elem fr => simp only; rw [Array.setIfInBounds_comm _ _ h]
      | _ => rfl
    · simp only [if_neg e]

/-- The fourth cell of a block. -/
structure OBl (W : World) (b : Nat) (v : Value) : Prop where
  hb : b < W.heap.size
  c3 : W.cell? ⟨b, 3, none⟩ = some v
  f3 : W.frozen? ⟨b, 3, none⟩ = false
theorem OBl.on {W W2 : World} {b : Nat} {v : Value} (h : OBl W b v) (hb : Below W.heap.size W W2) : OBl W2 b v := ⟨Nat.lt_of_lt_of_le h.hb hb.size, (hb.cell (p := ⟨b, 3, none⟩) h.hb).trans h.c3, (hb.frozen (p := ⟨b, 3, none⟩) h.hb).trans h.f3⟩
theorem OBl.only {S : Nat → Prop} {W W2 : World} {b : Nat} {v : Value} (h : OBl W b v) (hb : Only S W W2) (hn : ¬ S b) : OBl W2 b v := ⟨Nat.lt_of_lt_of_le h.hb hb.size, (hb.cell (p := ⟨b, 3, none⟩) h.hb hn).trans h.c3, (hb.frozen (p := ⟨b, 3, none⟩) h.hb hn).trans h.f3⟩
theorem OBl.oth {W : World} {b j : Nat} {v z : Value} (h : OBl W b v) (hj : j ≠ 3) : OBl (W.setCell ⟨b, j, none⟩ z) b v := ⟨by simpa using h.hb, by rw [World.cell?_setCell_other _ _ _ _ (adr_ne (b := b) (i := j) (j := 3) hj)]; exact h.c3, by simpa using h.f3⟩
theorem OBl.set {W : World} {b : Nat} {v : Value} (h : OBl W b v) (z : Value) : OBl (W.setCell ⟨b, 3, none⟩ z) b z := ⟨by simpa using h.hb, World.cell?_setCell_same' _ _ _ (by rw [h.c3]; rfl), by simpa using h.f3⟩
/-- A block for the result. -/
structure ROut (w W : World) (rb : Nat) : Prop where
  eq : rb = w.heap.size
  b : Below w.heap.size w W
  e : EBlk W rb (.slice none 0 0) (.slice none 0 0) (.int .i64 0)
  o : OBl W rb (.bool false)
theorem ROut.on {w W W2 : World} {rb : Nat} (h : ROut w W rb) (hb : Below W.heap.size W W2) : ROut w W2 rb := ⟨h.eq, below_on h.b hb, h.e.on hb, h.o.on hb⟩
theorem ROut.only {S : Nat → Prop} {w W W2 : World} {rb : Nat} (h : ROut w W rb) (hb : Only S W W2) (hs : ∀ c, S c → rb + 1 ≤ c) : ROut w W2 rb :=
  ⟨h.eq, h.b.trans (hb.below h.b.size (fun q hq => by have := hs q hq; have := h.eq; omega)), h.e.only hb (fun e => by have := hs _ e; omega), h.o.only hb (fun e => by have := hs _ e; omega)⟩
theorem ROut.set {w W : World} {rb : Nat} (h : ROut w W rb) (p : Addr) (hp : rb + 1 ≤ p.block) (v : Value) : ROut w (W.setCell p v) rb := h.only (only_set W p v) (fun c hc => by rw [hc]; exact hp)

def sO (od : Bool) : Int := if od then -1 else 1
theorem sO_not (od : Bool) : sO (!od) = - sO od := by cases od <;> rfl
theorem ESt.swapS {B0 : Nat} {W W2 : World} {eb b R n Cb k : Nat} {G C : Nat → Nat} {E : Nat → Nat → Int} {pv : Value} {p : Nat → Nat} {D : Int} (h : ESt B0 W eb b R n Cb G C E pv k p D) (i a : Nat) (hi : i < a) (ha : a < R)
    (h2 : Grid B0 W2 b R n (swN i a G) (swN i a C) (swE i a E)) (h3 : Only (fun c => c = b) W W2) :
    ESt B0 W2 eb b R n Cb (swN i a G) (swN i a C) (swE i a E) pv k p D := by
  have hs : ∀ x, x < R → ∃ y, y < R ∧ swN i a G x = G y := fun x hx => by
    unfold swN
    split
    · exact ⟨a, ha, rfl⟩
    · split
      · exact ⟨i, by omega, rfl⟩
      · exact ⟨x, hx, rfl⟩
  refine ⟨h.e.only h3 h.ne, h2, own_only h.o h3 (fun q hq e => (h.pb q hq).2.1 e), h.ne, fun x hx => ?_, fun q hq => ⟨(h.pb q hq).1, (h.pb q hq).2.1, fun x hx => ?_⟩, h.le, h.cb⟩
  · obtain ⟨y, hy, e⟩ := hs x hx
    rw [e]; exact h.nr y hy
  · obtain ⟨y, hy, e⟩ := hs x hx
    rw [e]; exact (h.pb q hq).2.2 y hy
theorem ESt.rows {B0 : Nat} {W : World} {eb b R n Cb k : Nat} {G C : Nat → Nat} {E : Nat → Nat → Int} {pv : Value} {p : Nat → Nat} {D : Int} (h : ESt B0 W eb b R n Cb G C E pv k p D) : Hid (EBlk W eb (.slice (some ⟨b, 0, none⟩) R Cb) pv (.int .i64 D)) := h.e
/-- The copy of a matrix, and a block for the elimination. -/
theorem ESt.start {B0 : Nat} {W : World} {b R n Cb : Nat} {G C : Nat → Nat} {M : Nat → Nat → Int} (hG : Grid B0 W b R n G C M) (hc : R ≤ Cb) (hB : B0 ≤ W.heap.size) (p : Nat → Nat) (t : TypeId) :
    ESt B0 (W.alloc (Obj.cells #[.slice (some ⟨b, 0, none⟩) R Cb, .slice none 0 0, .int .i64 1, .bool false] t)) W.heap.size b R n Cb G C M (.slice none 0 0) 0 p 1 ∧ OBl (W.alloc (Obj.cells #[.slice (some ⟨b, 0, none⟩) R Cb, .slice none 0 0, .int .i64 1, .bool false] t)) W.heap.size (.bool false) := by
  have hb : Below W.heap.size W (W.alloc (Obj.cells #[.slice (some ⟨b, 0, none⟩) R Cb, .slice none 0 0, .int .i64 1, .bool false] t)) := (Below.refl _ _).alloc (Nat.le_refl _) _
  exact ⟨⟨⟨by simp, by simp [go_sem], by simp [go_sem], by simp [go_sem], by simp [go_sem], by simp [go_sem], by simp [go_sem]⟩, hG.on hb, World.ownsRow_nil _ _ _ _, fun e => by have := hG.hb; omega, fun i hi e => by have := (hG.row i hi).2.1; omega, fun q hq => (by cases hq), hB, hc⟩, ⟨by simp, by simp [go_sem], by simp [go_sem]⟩⟩
theorem ROut.start (w : World) (t : TypeId) : ROut w (w.alloc (Obj.cells #[.slice none 0 0, .slice none 0 0, .int .i64 0, .bool false] t)) w.heap.size :=
  ⟨rfl, (Below.refl _ _).alloc (Nat.le_refl _) _, ⟨by simp, by simp [go_sem], by simp [go_sem], by simp [go_sem], by simp [go_sem], by simp [go_sem], by simp [go_sem]⟩, ⟨by simp, by simp [go_sem], by simp [go_sem]⟩⟩

structure RExR (fb b R n Cb k q : Nat) (G C : Nat → Nat) (Wc : World) (L : Nat → Bool) (v : Nat → Value) (W : World) : Prop where
  st : L 17 = false → Below Wc.heap.size Wc W
  s1 : Had L 17 (L 19 = false → ∃ W2, Below Wc.heap.size Wc W2 ∧ W = W2.setCell ⟨b, q, none⟩ (.slice (some ⟨G k, 0, none⟩) n (C k)))
  s2 : Had L 19 (∃ W2, Below Wc.heap.size Wc W2 ∧ W = (W2.setCell ⟨b, q, none⟩ (.slice (some ⟨G k, 0, none⟩) n (C k))).setCell ⟨b, k, none⟩ (.slice (some ⟨G q, 0, none⟩) n (C q)))
  w1 : Had L 1 (∀ j ∈ [0], L j = true)
  w4 : Had L 4 (∀ j ∈ [3], L j = true)
  w7 : Had L 7 (∀ j ∈ [6], L j = true)
  w9 : Had L 9 (∀ j ∈ [7, 8], L j = true)
  w10 : Had L 10 (∀ j ∈ [9], L j = true)
  w12 : Had L 12 (∀ j ∈ [11], L j = true)
  w14 : Had L 14 (∀ j ∈ [12, 13], L j = true)
  w15 : Had L 15 (∀ j ∈ [14], L j = true)
  w16 : Had L 16 (∀ j ∈ [1, 2], L j = true)
  w17 : Had L 17 (∀ j ∈ [0, 1, 2, 6, 7, 8, 9, 10, 15, 16], L j = true)
  w18 : Had L 18 (∀ j ∈ [0, 1, 2, 3, 4, 5, 6, 7, 8, 9, 10, 11, 12, 13, 14, 15, 16, 17], L j = true)
  w19 : Had L 19 (∀ j ∈ [0, 1, 2, 3, 4, 5, 6, 7, 8, 9, 10, 11, 12, 13, 14, 15, 16, 17, 18], L j = true)
  f0 : Had L 0 (v 52 = .pointer (some ⟨fb, 0, none⟩))
  f1 : Had L 1 (v 53 = .slice (some ⟨b, 0, none⟩) R Cb)
  f2 : Had L 2 (v 54 = .int .i64 (q : Int))
  f3 : Had L 3 (v 55 = .pointer (some ⟨fb, 0, none⟩))
  f4 : Had L 4 (v 56 = .slice (some ⟨b, 0, none⟩) R Cb)
  f5 : Had L 5 (v 57 = .int .i64 (k : Int))
  f6 : Had L 6 (v 58 = .pointer (some ⟨fb, 0, none⟩))
  f7 : Had L 7 (v 59 = .slice (some ⟨b, 0, none⟩) R Cb)
  f8 : Had L 8 (v 60 = .int .i64 (k : Int))
  f9 : Had L 9 (v 61 = .pointer (some ⟨b, k, none⟩))
  f10 : Had L 10 (v 62 = .slice (some ⟨G k, 0, none⟩) n (C k))
  f11 : Had L 11 (v 63 = .pointer (some ⟨fb, 0, none⟩))
  f12 : Had L 12 (v 64 = .slice (some ⟨b, 0, none⟩) R Cb)
  f13 : Had L 13 (v 65 = .int .i64 (q : Int))
  f14 : Had L 14 (v 66 = .pointer (some ⟨b, q, none⟩))
  f15 : Had L 15 (v 67 = .slice (some ⟨G q, 0, none⟩) n (C q))
  f16 : Had L 16 (v 68 = .pointer (some ⟨b, q, none⟩))
  f18 : Had L 18 (v 69 = .pointer (some ⟨b, k, none⟩))

structure RElR (fb b R n Cb k i j : Nat) (G C : Nat → Nat) (va vb vc vd D r : Int) (Wc : World) (L : Nat → Bool) (v : Nat → Value) (W : World) : Prop where
  st : L 28 = false → Below Wc.heap.size Wc W
  s1 : Had L 28 (∃ W2, Below Wc.heap.size Wc W2 ∧ W = W2.setCell ⟨G i, j, none⟩ (.int .i64 r))
  w1 : Had L 1 (∀ j ∈ [0], L j = true)
  w3 : Had L 3 (∀ j ∈ [1, 2], L j = true)
  w4 : Had L 4 (∀ j ∈ [3], L j = true)
  w7 : Had L 7 (∀ j ∈ [6], L j = true)
  w9 : Had L 9 (∀ j ∈ [7, 8], L j = true)
  w10 : Had L 10 (∀ j ∈ [9], L j = true)
  w12 : Had L 12 (∀ j ∈ [10, 11], L j = true)
  w13 : Had L 13 (∀ j ∈ [12], L j = true)
  w16 : Had L 16 (∀ j ∈ [15], L j = true)
  w18 : Had L 18 (∀ j ∈ [16, 17], L j = true)
  w19 : Had L 19 (∀ j ∈ [18], L j = true)
  w21 : Had L 21 (∀ j ∈ [19, 20], L j = true)
  w22 : Had L 22 (∀ j ∈ [21], L j = true)
  w25 : Had L 25 (∀ j ∈ [24], L j = true)
  w26 : Had L 26 (∀ j ∈ [13, 14, 22, 23, 25], L j = true)
  w27 : Had L 27 (∀ j ∈ [4, 5], L j = true)
  w28 : Had L 28 (∀ j ∈ [0, 1, 2, 3, 4, 5, 6, 7, 8, 9, 10, 11, 12, 13, 14, 15, 16, 17, 18, 19, 20, 21, 22, 23, 24, 25, 26, 27], L j = true)
  f0 : Had L 0 (v 109 = .pointer (some ⟨fb, 0, none⟩))
  f1 : Had L 1 (v 110 = .slice (some ⟨b, 0, none⟩) (R) (Cb))
  f2 : Had L 2 (v 111 = .int .i64 (i : Int))
  f3 : Had L 3 (v 112 = .pointer (some ⟨b, i, none⟩))
  f4 : Had L 4 (v 113 = .slice (some ⟨G i, 0, none⟩) (n) (C i))
  f5 : Had L 5 (v 114 = .int .i64 (j : Int))
  f6 : Had L 6 (v 115 = .pointer (some ⟨fb, 0, none⟩))
  f7 : Had L 7 (v 116 = .slice (some ⟨b, 0, none⟩) (R) (Cb))
  f8 : Had L 8 (v 117 = .int .i64 (i : Int))
  f9 : Had L 9 (v 118 = .pointer (some ⟨b, i, none⟩))
  f10 : Had L 10 (v 119 = .slice (some ⟨G i, 0, none⟩) (n) (C i))
  f11 : Had L 11 (v 120 = .int .i64 (j : Int))
  f12 : Had L 12 (v 121 = .pointer (some ⟨G i, j, none⟩))
  f13 : Had L 13 (v 122 = .int .i64 va)
  f14 : Had L 14 (v 123 = .int .i64 vb)
  f15 : Had L 15 (v 124 = .pointer (some ⟨fb, 0, none⟩))
  f16 : Had L 16 (v 125 = .slice (some ⟨b, 0, none⟩) (R) (Cb))
  f17 : Had L 17 (v 126 = .int .i64 (k : Int))
  f18 : Had L 18 (v 127 = .pointer (some ⟨b, k, none⟩))
  f19 : Had L 19 (v 128 = .slice (some ⟨G k, 0, none⟩) (n) (C k))
  f20 : Had L 20 (v 129 = .int .i64 (j : Int))
  f21 : Had L 21 (v 130 = .pointer (some ⟨G k, j, none⟩))
  f22 : Had L 22 (v 131 = .int .i64 vc)
  f23 : Had L 23 (v 132 = .int .i64 vd)
  f24 : Had L 24 (v 133 = .pointer (some ⟨fb, 2, none⟩))
  f25 : Had L 25 (v 134 = .int .i64 D)
  f26 : Had L 26 (v 135 = .int .i64 r)
  f27 : Had L 27 (v 136 = .pointer (some ⟨G i, j, none⟩))

/-- What the reference's Eliminate returns. -/
def ElP (R n m cols : Nat) (M : Nat → Nat → Int) (w w' : World) (e : Ending) : Prop :=
  ∃ b Cb G C U E pv k p D od, e = .returned (.agg #[.slice (some ⟨b, 0, none⟩) R Cb, pv, .int .i64 D, .bool od]) ∧ R ≤ Cb ∧ Grid w.heap.size w' b R n G C E ∧ w'.ownsRow w.heap.size 3 1 pv k ((List.range k).map fun l => Value.int .i64 (p l)) ∧ RInv R n m M U (sO od) k cols p E D

set_option maxRecDepth 100000 in
set_option maxHeartbeats 64000000 in
theorem refElim_any (mb mo mc R n m cols : Nat) (Ga Oa Ka : Nat → Nat) (M : Nat → Nat → Int) (w : World) (hM : Mat w mb mo R n Ga Oa Ka M) (hR0 : 0 < R) (hR13 : R ≤ 13) (hn0 : 0 < n) (hn13 : n ≤ 13) (hcols : cols ≤ n) (r6 : R ≤ 6 ∨ n ≤ 6) (sm : ∀ i j, i < R → j < n → - cB m j ≤ M i j ∧ M i j ≤ cB m j) :
    Calls Try.prog 49 #[.slice (some ⟨mb, mo, none⟩) R mc, .int .i64 (cols : Int)] w fun e w' => Below w.heap.size w w' ∧
      ElP R n m cols M w w' e := by
  have HM := Lib.hid hM
  have HS := Lib.hid (RInv.start sm r6 (fun _ => 0))
  clear hM sm
  go_enter Try.func49, Try.ntmps49
  go_upto_region 1 with fail
  have hr0 := ROut.start w 72
  obtain ⟨rb, hrb⟩ : ∃ x, x = w.heap.size := ⟨_, rfl⟩
  rw [← hrb] at hr0
  rw [← hrb]
  have HM1 := Lib.hid (HM.out.on hr0.b)
  have hsz : (w.alloc (Obj.cells #[.slice none 0 0, .slice none 0 0, .int .i64 0, .bool false] 72)).heap.size = rb + 1 := by rw [hrb]; simp
  generalize w.alloc (Obj.cells #[Value.slice none 0 0, Value.slice none 0 0, Value.int IntKind.i64 0, Value.bool false] 72) = W0 at *
  have HR0 := Lib.hid hr0
  have CC := Lib.hid (refCopy_any mb mo mc R n 0 0 n Ga Oa Ka M M none (fun _ => 0) W0 HM1.out hR0 hR13 hn0 hn13 (fun h => by omega) (.inl ⟨rfl, rfl, rfl⟩))
  rw [hsz] at CC
  have HW0 := Lib.hid hsz
  have HRB := Lib.hid hrb
  clear hr0 hsz hrb
  go_upto_region 2 with (go_at_call 36; (with_reducible refine ((CC.out).mono ?_)); rintro e W1 ⟨b, Cb, G, C, rfl, hCb, hb1, hG⟩)
  have HR1 := Lib.hid (HR0.out.on (by rw [HW0.out]; exact hb1))
  have hs := ESt.start hG hCb (by rw [← HW0.out]; exact hb1.size) (fun _ => 0) 72
  have hb2 : Below W1.heap.size W1 (W1.alloc (Obj.cells #[.slice (some ⟨b, 0, none⟩) R Cb, .slice none 0 0, .int .i64 1, .bool false] 72)) := (Below.refl _ _).alloc (Nat.le_refl _) _
  have HR2 := HR1.out.on hb2
  obtain ⟨fb, hfb⟩ : ∃ x, x = W1.heap.size := ⟨_, rfl⟩
  rw [← hfb] at hs
  rw [← hfb]
  generalize W1.alloc (Obj.cells #[Value.slice (some ⟨b, 0, none⟩) R Cb, Value.slice none 0 0, Value.int IntKind.i64 1, Value.bool false] 72) = W2 at *
  have S0 : Hid (ESt (rb + 1) W2 fb b R n Cb G C M (.slice none 0 0) 0 (fun _ => 0) 1 ∧ OBl W2 fb (.bool false) ∧ ROut w W2 rb) := ⟨hs.1, hs.2, HR2⟩
  clear hs HR2 hb2 hfb HR1 hb1 hG CC HM1 HR0 HW0 HM
  go_wp2_with fail
  go_loopg [7, 6] cols (fun g s7 s6 wx => ∃ c k : Nat, s7 = .int .i64 c ∧ s6 = .int .i64 k ∧ g = cols - c ∧ c ≤ cols ∧ k ≤ R ∧ ∃ G C U E pv p D od, Hid (ESt (rb + 1) wx fb b R n Cb G C E pv k p D ∧ OBl wx fb (.bool od) ∧ ROut w wx rb) ∧ Hid (RInv R n m M U (sO od) k c p E D))
  case atStart => exact ⟨0, 0, rfl, rfl, rfl, Nat.zero_le _, Nat.zero_le _, _, _, _, _, _, _, _, _, S0, HS⟩
  case round =>
    clear S0 HS
    obtain ⟨c, k, rfl, rfl, rfl, hcc, hkR, G, C, U, E, pv, p, D, od, S, HI⟩ := hrel
    rename World => W1
    obtain ⟨pa, pc, hpv⟩ := own_form S.out.1.o
    subst hpv
    by_cases hgo : c < cols ∧ k < R
    · obtain ⟨hlt, hkR2⟩ := hgo
      have hc : c < n := by omega
      have wk : IntKind.i64.wrap ((c : Int) + 1) = ((c + 1 : Nat) : Int) := by rw [IntWalk.i64_in _ (by omega)]; omega
      go_wp2_with fail
      have Z0 : Hid (∀ l, k ≤ l → l < k → E l c = 0) := fun l h1 h2 => by omega
      go_loopg [8] (R - k) (fun g s8 wx => ∃ q : Nat, s8 = .int .i64 q ∧ g = R - q ∧ k ≤ q ∧ q ≤ R ∧ wx = W1 ∧ Hid (∀ l, k ≤ l → l < q → E l c = 0))
      case atStart => exact ⟨k, rfl, rfl, Nat.le_refl _, hkR, rfl, Z0⟩
      case round =>
        clear Z0
        obtain ⟨q, rfl, rfl, hkq, hqR, rfl, Z⟩ := hrel
        rename World => W2
        have q0 := S.out.1.e.c0
        by_cases hq : q < R
        · have wq : IntKind.i64.wrap ((q : Int) + 1) = ((q + 1 : Nat) : Int) := by rw [IntWalk.i64_in _ (by omega)]; omega
          have q1 := S.out.1.g.top q hq
          have q2 := S.out.1.g.cell q c hq hc
          obtain ⟨vq, hvq⟩ : ∃ x, E q c = x := ⟨_, rfl⟩
          rw [hvq] at q2
          by_cases hz : vq = 0
          · subst hz
            have Z2 : Hid (∀ l, k ≤ l → l < q + 1 → E l c = 0) := fun l h1 h2 => by
              by_cases e : l = q
              · rw [e]; exact hvq
              · exact Z.out l h1 (by omega)
            clear hvq Z
            go_wp2_with fail
            go_roundg (R - (q + 1))
            case measure => omega
            case rel => exact ⟨q + 1, rfl, rfl, by omega, by omega, rfl, Z2⟩
          · have hzb : (vq == 0) = false := by simpa using hz
            have HNZ : Hid (E q c ≠ 0) := by show E q c ≠ 0; rw [hvq]; exact hz
            have nqR : ¬ ((q : Int) = (R : Int)) := by omega
            clear hz hvq
            go_upto_if 51 with fail
            clear q0 q1 q2
            go_cut [] (fun wx => ∃ G' C' U' E' od', Hid (ESt (rb + 1) wx fb b R n Cb G' C' E' (.slice pa k pc) k p D ∧ OBl wx fb (.bool od') ∧ ROut w wx rb) ∧ Hid (RInv R n m M U' (sO od') k c p E' D) ∧ Hid (E' k c ≠ 0))
            case first =>
              by_cases e : q = k
              · subst e
                go_wp2_with fail
                go_meet
                exact ⟨G, C, U, E, od, S, HI, HNZ⟩
              · have hkq2 : k < q := by omega
                have neb : ((q : Int) != (k : Int)) = true := by simp; omega
                have HE := S.out.1.rows
                have HG := Lib.hid S.out.1.g
                have hne : k ≠ q := by omega
                have HNB : Hid (fb ≠ b) := S.out.1.ne
                clear e
                go_upto_region 11 with fail
                generalize ((q : Int) == (R : Int)) = tb1
                generalize ((q : Int) != (k : Int)) = tb2
                refine wp_region_each (fun L A W => ∃ (v : Nat → Value), A = ⟨#[_, _, _, _, _, _, _, _, _, _, _, _, _, _, _, _, _, _, _, _, _, _, _, _, _, _, _, _, _, _, _, _, _, _, _, _, _, _, _, _, _, _, _, _, _, _, _, _, _, _, _, _, v 52, v 53, v 54, v 55, v 56, v 57, v 58, v 59, v 60, v 61, v 62, v 63, v 64, v 65, v 66, v 67, v 68, v 69, _, _, _, _, _, _, _, _, _, _, _, _, _, _, _, _, _, _, _, _, _, _, _, _, _, _, _, _, _, _, _, _, _, _, _, _, _, _, _, _, _, _, _, _, _, _, _, _, _, _, _, _, _, _, _, _, _, _, _, _, _, _, _, _, _, _, _, _, _, _, _, _, _, _, _, _, _, _], []⟩ ∧ RExR fb b R n Cb k q G C W2 L v W) (by kernel_rfl) (by kernel_rfl) ⟨fun jz => if jz = 52 then u52 else if jz = 53 then u53 else if jz = 54 then u54 else if jz = 55 then u55 else if jz = 56 then u56 else if jz = 57 then u57 else if jz = 58 then u58 else if jz = 59 then u59 else if jz = 60 then u60 else if jz = 61 then u61 else if jz = 62 then u62 else if jz = 63 then u63 else if jz = 64 then u64 else if jz = 65 then u65 else if jz = 66 then u66 else if jz = 67 then u67 else if jz = 68 then u68 else if jz = 69 then u69 else undef, rfl, ⟨(fun _ => Below.drew (Below.refl _ _)), Had.none, Had.none, Had.none, Had.none, Had.none, Had.none, Had.none, Had.none, Had.none, Had.none, Had.none, Had.none, Had.none, Had.none, Had.none, Had.none, Had.none, Had.none, Had.none, Had.none, Had.none, Had.none, Had.none, Had.none, Had.none, Had.none, Had.none, Had.none, Had.none, Had.none, Had.none, Had.none⟩⟩ (rs := [0, 1, 2, 3, 4, 5, 6, 7, 8, 9, 10, 11, 12, 13, 14, 15, 16, 17, 18, 19]) (by kernel_rfl) ?_ ?_
                · refine EachOf.cons [] rfl (by kernel_rfl) ?_ ?_
                  · rintro L A W ⟨v, rfl, hR⟩ hi hw K hK
                    have hk : L 17 = false := hR.w17.not hi rfl
                    go_simp
                    refine hK.out _ _ ?_
                    exact ⟨(fun jz => if jz = 52 then .pointer (some ⟨fb, 0, none⟩) else v jz), rfl, ⟨(fun h => hR.st (upd_false h)), hR.s1.keepM rfl (fun h hx => h (upd_false hx)), hR.s2.keep rfl, hR.w1.keepM rfl (fun h j hj => upd_on (h j hj)), hR.w4.keepM rfl (fun h j hj => upd_on (h j hj)), hR.w7.keepM rfl (fun h j hj => upd_on (h j hj)), hR.w9.keepM rfl (fun h j hj => upd_on (h j hj)), hR.w10.keepM rfl (fun h j hj => upd_on (h j hj)), hR.w12.keepM rfl (fun h j hj => upd_on (h j hj)), hR.w14.keepM rfl (fun h j hj => upd_on (h j hj)), hR.w15.keepM rfl (fun h j hj => upd_on (h j hj)), hR.w16.keepM rfl (fun h j hj => upd_on (h j hj)), hR.w17.keepM rfl (fun h j hj => upd_on (h j hj)), hR.w18.keepM rfl (fun h j hj => upd_on (h j hj)), hR.w19.keepM rfl (fun h j hj => upd_on (h j hj)), (fun _ => rfl), hR.f1.keep rfl, hR.f2.keep rfl, hR.f3.keep rfl, hR.f4.keep rfl, hR.f5.keep rfl, hR.f6.keep rfl, hR.f7.keep rfl, hR.f8.keep rfl, hR.f9.keep rfl, hR.f10.keep rfl, hR.f11.keep rfl, hR.f12.keep rfl, hR.f13.keep rfl, hR.f14.keep rfl, hR.f15.keep rfl, hR.f16.keep rfl, hR.f18.keep rfl⟩⟩
                  refine EachOf.cons [0] rfl (by kernel_rfl) ?_ ?_
                  · rintro L A W ⟨v, rfl, hR⟩ hi hw K hK
                    have hk : L 17 = false := hR.w17.not hi rfl
                    have e0 := hR.f0 (hw 0 (by simp))
                    simp only [e0]
                    clear e0
                    have q0 := HE.out.c0
                    have q1 := (hR.st hk).cell (p := ⟨fb, 0, none⟩) HE.out.hb
                    rw [q0] at q1
                    go_simp
                    refine hK.out _ _ ?_
                    exact ⟨(fun jz => if jz = 52 then .pointer (some ⟨fb, 0, none⟩) else if jz = 53 then .slice (some ⟨b, 0, none⟩) R Cb else v jz), rfl, ⟨(fun h => hR.st (upd_false h)), hR.s1.keepM rfl (fun h hx => h (upd_false hx)), hR.s2.keep rfl, (fun _ j hj => upd_on (hw j hj)), hR.w4.keepM rfl (fun h j hj => upd_on (h j hj)), hR.w7.keepM rfl (fun h j hj => upd_on (h j hj)), hR.w9.keepM rfl (fun h j hj => upd_on (h j hj)), hR.w10.keepM rfl (fun h j hj => upd_on (h j hj)), hR.w12.keepM rfl (fun h j hj => upd_on (h j hj)), hR.w14.keepM rfl (fun h j hj => upd_on (h j hj)), hR.w15.keepM rfl (fun h j hj => upd_on (h j hj)), hR.w16.keepM rfl (fun h j hj => upd_on (h j hj)), hR.w17.keepM rfl (fun h j hj => upd_on (h j hj)), hR.w18.keepM rfl (fun h j hj => upd_on (h j hj)), hR.w19.keepM rfl (fun h j hj => upd_on (h j hj)), (fun _ => rfl), (fun _ => rfl), hR.f2.keep rfl, hR.f3.keep rfl, hR.f4.keep rfl, hR.f5.keep rfl, hR.f6.keep rfl, hR.f7.keep rfl, hR.f8.keep rfl, hR.f9.keep rfl, hR.f10.keep rfl, hR.f11.keep rfl, hR.f12.keep rfl, hR.f13.keep rfl, hR.f14.keep rfl, hR.f15.keep rfl, hR.f16.keep rfl, hR.f18.keep rfl⟩⟩
                  refine EachOf.cons [] rfl (by kernel_rfl) ?_ ?_
                  · rintro L A W ⟨v, rfl, hR⟩ hi hw K hK
                    have hk : L 17 = false := hR.w17.not hi rfl
                    go_simp
                    refine hK.out _ _ ?_
                    exact ⟨(fun jz => if jz = 54 then .int .i64 (q : Int) else v jz), rfl, ⟨(fun h => hR.st (upd_false h)), hR.s1.keepM rfl (fun h hx => h (upd_false hx)), hR.s2.keep rfl, hR.w1.keepM rfl (fun h j hj => upd_on (h j hj)), hR.w4.keepM rfl (fun h j hj => upd_on (h j hj)), hR.w7.keepM rfl (fun h j hj => upd_on (h j hj)), hR.w9.keepM rfl (fun h j hj => upd_on (h j hj)), hR.w10.keepM rfl (fun h j hj => upd_on (h j hj)), hR.w12.keepM rfl (fun h j hj => upd_on (h j hj)), hR.w14.keepM rfl (fun h j hj => upd_on (h j hj)), hR.w15.keepM rfl (fun h j hj => upd_on (h j hj)), hR.w16.keepM rfl (fun h j hj => upd_on (h j hj)), hR.w17.keepM rfl (fun h j hj => upd_on (h j hj)), hR.w18.keepM rfl (fun h j hj => upd_on (h j hj)), hR.w19.keepM rfl (fun h j hj => upd_on (h j hj)), hR.f0.keep rfl, hR.f1.keep rfl, (fun _ => rfl), hR.f3.keep rfl, hR.f4.keep rfl, hR.f5.keep rfl, hR.f6.keep rfl, hR.f7.keep rfl, hR.f8.keep rfl, hR.f9.keep rfl, hR.f10.keep rfl, hR.f11.keep rfl, hR.f12.keep rfl, hR.f13.keep rfl, hR.f14.keep rfl, hR.f15.keep rfl, hR.f16.keep rfl, hR.f18.keep rfl⟩⟩
                  refine EachOf.cons [] rfl (by kernel_rfl) ?_ ?_
                  · rintro L A W ⟨v, rfl, hR⟩ hi hw K hK
                    go_simp
                    refine hK.out _ _ ?_
                    exact ⟨(fun jz => if jz = 55 then .pointer (some ⟨fb, 0, none⟩) else v jz), rfl, ⟨(fun h => hR.st (upd_false h)), hR.s1.keepM rfl (fun h hx => h (upd_false hx)), hR.s2.keep rfl, hR.w1.keepM rfl (fun h j hj => upd_on (h j hj)), hR.w4.keepM rfl (fun h j hj => upd_on (h j hj)), hR.w7.keepM rfl (fun h j hj => upd_on (h j hj)), hR.w9.keepM rfl (fun h j hj => upd_on (h j hj)), hR.w10.keepM rfl (fun h j hj => upd_on (h j hj)), hR.w12.keepM rfl (fun h j hj => upd_on (h j hj)), hR.w14.keepM rfl (fun h j hj => upd_on (h j hj)), hR.w15.keepM rfl (fun h j hj => upd_on (h j hj)), hR.w16.keepM rfl (fun h j hj => upd_on (h j hj)), hR.w17.keepM rfl (fun h j hj => upd_on (h j hj)), hR.w18.keepM rfl (fun h j hj => upd_on (h j hj)), hR.w19.keepM rfl (fun h j hj => upd_on (h j hj)), hR.f0.keep rfl, hR.f1.keep rfl, hR.f2.keep rfl, (fun _ => rfl), hR.f4.keep rfl, hR.f5.keep rfl, hR.f6.keep rfl, hR.f7.keep rfl, hR.f8.keep rfl, hR.f9.keep rfl, hR.f10.keep rfl, hR.f11.keep rfl, hR.f12.keep rfl, hR.f13.keep rfl, hR.f14.keep rfl, hR.f15.keep rfl, hR.f16.keep rfl, hR.f18.keep rfl⟩⟩
                  refine EachOf.cons [3] rfl (by kernel_rfl) ?_ ?_
                  · rintro L A W ⟨v, rfl, hR⟩ hi hw K hK
                    have hk2 : L 19 = false := hR.w19.not hi rfl
                    have hO : Only (fun c => c = b) W2 W := by
                      cases hx : L 17 with
                      | false => exact Only.of_below (hR.st hx)
                      | true =>
                        obtain ⟨W2, hb2, hW⟩ := hR.s1 hx hk2
                        rw [hW]
                        exact (Only.of_below (S := fun c => c = b) hb2).setCell ⟨b, q, none⟩ rfl _
                    have e3 := hR.f3 (hw 3 (by simp))
                    simp only [e3]
                    clear e3
                    have q0 := HE.out.c0
                    have q1 := hO.cell (p := ⟨fb, 0, none⟩) HE.out.hb HNB.out
                    rw [q0] at q1
                    go_simp
                    refine hK.out _ _ ?_
                    exact ⟨(fun jz => if jz = 55 then .pointer (some ⟨fb, 0, none⟩) else if jz = 56 then .slice (some ⟨b, 0, none⟩) R Cb else v jz), rfl, ⟨(fun h => hR.st (upd_false h)), hR.s1.keepM rfl (fun h hx => h (upd_false hx)), hR.s2.keep rfl, hR.w1.keepM rfl (fun h j hj => upd_on (h j hj)), (fun _ j hj => upd_on (hw j hj)), hR.w7.keepM rfl (fun h j hj => upd_on (h j hj)), hR.w9.keepM rfl (fun h j hj => upd_on (h j hj)), hR.w10.keepM rfl (fun h j hj => upd_on (h j hj)), hR.w12.keepM rfl (fun h j hj => upd_on (h j hj)), hR.w14.keepM rfl (fun h j hj => upd_on (h j hj)), hR.w15.keepM rfl (fun h j hj => upd_on (h j hj)), hR.w16.keepM rfl (fun h j hj => upd_on (h j hj)), hR.w17.keepM rfl (fun h j hj => upd_on (h j hj)), hR.w18.keepM rfl (fun h j hj => upd_on (h j hj)), hR.w19.keepM rfl (fun h j hj => upd_on (h j hj)), hR.f0.keep rfl, hR.f1.keep rfl, hR.f2.keep rfl, (fun _ => rfl), (fun _ => rfl), hR.f5.keep rfl, hR.f6.keep rfl, hR.f7.keep rfl, hR.f8.keep rfl, hR.f9.keep rfl, hR.f10.keep rfl, hR.f11.keep rfl, hR.f12.keep rfl, hR.f13.keep rfl, hR.f14.keep rfl, hR.f15.keep rfl, hR.f16.keep rfl, hR.f18.keep rfl⟩⟩
                  refine EachOf.cons [] rfl (by kernel_rfl) ?_ ?_
                  · rintro L A W ⟨v, rfl, hR⟩ hi hw K hK
                    go_simp
                    refine hK.out _ _ ?_
                    exact ⟨(fun jz => if jz = 57 then .int .i64 (k : Int) else v jz), rfl, ⟨(fun h => hR.st (upd_false h)), hR.s1.keepM rfl (fun h hx => h (upd_false hx)), hR.s2.keep rfl, hR.w1.keepM rfl (fun h j hj => upd_on (h j hj)), hR.w4.keepM rfl (fun h j hj => upd_on (h j hj)), hR.w7.keepM rfl (fun h j hj => upd_on (h j hj)), hR.w9.keepM rfl (fun h j hj => upd_on (h j hj)), hR.w10.keepM rfl (fun h j hj => upd_on (h j hj)), hR.w12.keepM rfl (fun h j hj => upd_on (h j hj)), hR.w14.keepM rfl (fun h j hj => upd_on (h j hj)), hR.w15.keepM rfl (fun h j hj => upd_on (h j hj)), hR.w16.keepM rfl (fun h j hj => upd_on (h j hj)), hR.w17.keepM rfl (fun h j hj => upd_on (h j hj)), hR.w18.keepM rfl (fun h j hj => upd_on (h j hj)), hR.w19.keepM rfl (fun h j hj => upd_on (h j hj)), hR.f0.keep rfl, hR.f1.keep rfl, hR.f2.keep rfl, hR.f3.keep rfl, hR.f4.keep rfl, (fun _ => rfl), hR.f6.keep rfl, hR.f7.keep rfl, hR.f8.keep rfl, hR.f9.keep rfl, hR.f10.keep rfl, hR.f11.keep rfl, hR.f12.keep rfl, hR.f13.keep rfl, hR.f14.keep rfl, hR.f15.keep rfl, hR.f16.keep rfl, hR.f18.keep rfl⟩⟩
                  refine EachOf.cons [] rfl (by kernel_rfl) ?_ ?_
                  · rintro L A W ⟨v, rfl, hR⟩ hi hw K hK
                    have hk : L 17 = false := hR.w17.not hi rfl
                    go_simp
                    refine hK.out _ _ ?_
                    exact ⟨(fun jz => if jz = 58 then .pointer (some ⟨fb, 0, none⟩) else v jz), rfl, ⟨(fun h => hR.st (upd_false h)), hR.s1.keepM rfl (fun h hx => h (upd_false hx)), hR.s2.keep rfl, hR.w1.keepM rfl (fun h j hj => upd_on (h j hj)), hR.w4.keepM rfl (fun h j hj => upd_on (h j hj)), hR.w7.keepM rfl (fun h j hj => upd_on (h j hj)), hR.w9.keepM rfl (fun h j hj => upd_on (h j hj)), hR.w10.keepM rfl (fun h j hj => upd_on (h j hj)), hR.w12.keepM rfl (fun h j hj => upd_on (h j hj)), hR.w14.keepM rfl (fun h j hj => upd_on (h j hj)), hR.w15.keepM rfl (fun h j hj => upd_on (h j hj)), hR.w16.keepM rfl (fun h j hj => upd_on (h j hj)), hR.w17.keepM rfl (fun h j hj => upd_on (h j hj)), hR.w18.keepM rfl (fun h j hj => upd_on (h j hj)), hR.w19.keepM rfl (fun h j hj => upd_on (h j hj)), hR.f0.keep rfl, hR.f1.keep rfl, hR.f2.keep rfl, hR.f3.keep rfl, hR.f4.keep rfl, hR.f5.keep rfl, (fun _ => rfl), hR.f7.keep rfl, hR.f8.keep rfl, hR.f9.keep rfl, hR.f10.keep rfl, hR.f11.keep rfl, hR.f12.keep rfl, hR.f13.keep rfl, hR.f14.keep rfl, hR.f15.keep rfl, hR.f16.keep rfl, hR.f18.keep rfl⟩⟩
                  refine EachOf.cons [6] rfl (by kernel_rfl) ?_ ?_
                  · rintro L A W ⟨v, rfl, hR⟩ hi hw K hK
                    have hk : L 17 = false := hR.w17.not hi rfl
                    have e6 := hR.f6 (hw 6 (by simp))
                    simp only [e6]
                    clear e6
                    have q0 := HE.out.c0
                    have q1 := (hR.st hk).cell (p := ⟨fb, 0, none⟩) HE.out.hb
                    rw [q0] at q1
                    go_simp
                    refine hK.out _ _ ?_
                    exact ⟨(fun jz => if jz = 58 then .pointer (some ⟨fb, 0, none⟩) else if jz = 59 then .slice (some ⟨b, 0, none⟩) R Cb else v jz), rfl, ⟨(fun h => hR.st (upd_false h)), hR.s1.keepM rfl (fun h hx => h (upd_false hx)), hR.s2.keep rfl, hR.w1.keepM rfl (fun h j hj => upd_on (h j hj)), hR.w4.keepM rfl (fun h j hj => upd_on (h j hj)), (fun _ j hj => upd_on (hw j hj)), hR.w9.keepM rfl (fun h j hj => upd_on (h j hj)), hR.w10.keepM rfl (fun h j hj => upd_on (h j hj)), hR.w12.keepM rfl (fun h j hj => upd_on (h j hj)), hR.w14.keepM rfl (fun h j hj => upd_on (h j hj)), hR.w15.keepM rfl (fun h j hj => upd_on (h j hj)), hR.w16.keepM rfl (fun h j hj => upd_on (h j hj)), hR.w17.keepM rfl (fun h j hj => upd_on (h j hj)), hR.w18.keepM rfl (fun h j hj => upd_on (h j hj)), hR.w19.keepM rfl (fun h j hj => upd_on (h j hj)), hR.f0.keep rfl, hR.f1.keep rfl, hR.f2.keep rfl, hR.f3.keep rfl, hR.f4.keep rfl, hR.f5.keep rfl, (fun _ => rfl), (fun _ => rfl), hR.f8.keep rfl, hR.f9.keep rfl, hR.f10.keep rfl, hR.f11.keep rfl, hR.f12.keep rfl, hR.f13.keep rfl, hR.f14.keep rfl, hR.f15.keep rfl, hR.f16.keep rfl, hR.f18.keep rfl⟩⟩
                  refine EachOf.cons [] rfl (by kernel_rfl) ?_ ?_
                  · rintro L A W ⟨v, rfl, hR⟩ hi hw K hK
                    have hk : L 17 = false := hR.w17.not hi rfl
                    go_simp
                    refine hK.out _ _ ?_
                    exact ⟨(fun jz => if jz = 60 then .int .i64 (k : Int) else v jz), rfl, ⟨(fun h => hR.st (upd_false h)), hR.s1.keepM rfl (fun h hx => h (upd_false hx)), hR.s2.keep rfl, hR.w1.keepM rfl (fun h j hj => upd_on (h j hj)), hR.w4.keepM rfl (fun h j hj => upd_on (h j hj)), hR.w7.keepM rfl (fun h j hj => upd_on (h j hj)), hR.w9.keepM rfl (fun h j hj => upd_on (h j hj)), hR.w10.keepM rfl (fun h j hj => upd_on (h j hj)), hR.w12.keepM rfl (fun h j hj => upd_on (h j hj)), hR.w14.keepM rfl (fun h j hj => upd_on (h j hj)), hR.w15.keepM rfl (fun h j hj => upd_on (h j hj)), hR.w16.keepM rfl (fun h j hj => upd_on (h j hj)), hR.w17.keepM rfl (fun h j hj => upd_on (h j hj)), hR.w18.keepM rfl (fun h j hj => upd_on (h j hj)), hR.w19.keepM rfl (fun h j hj => upd_on (h j hj)), hR.f0.keep rfl, hR.f1.keep rfl, hR.f2.keep rfl, hR.f3.keep rfl, hR.f4.keep rfl, hR.f5.keep rfl, hR.f6.keep rfl, hR.f7.keep rfl, (fun _ => rfl), hR.f9.keep rfl, hR.f10.keep rfl, hR.f11.keep rfl, hR.f12.keep rfl, hR.f13.keep rfl, hR.f14.keep rfl, hR.f15.keep rfl, hR.f16.keep rfl, hR.f18.keep rfl⟩⟩
                  refine EachOf.cons [7, 8] rfl (by kernel_rfl) ?_ ?_
                  · rintro L A W ⟨v, rfl, hR⟩ hi hw K hK
                    have hk : L 17 = false := hR.w17.not hi rfl
                    have e7 := hR.f7 (hw 7 (by simp))
                    have e8 := hR.f8 (hw 8 (by simp))
                    simp only [e7, e8]
                    clear e7 e8
                    go_simp
                    refine hK.out _ _ ?_
                    exact ⟨(fun jz => if jz = 59 then .slice (some ⟨b, 0, none⟩) R Cb else if jz = 60 then .int .i64 (k : Int) else if jz = 61 then .pointer (some ⟨b, k, none⟩) else v jz), rfl, ⟨(fun h => hR.st (upd_false h)), hR.s1.keepM rfl (fun h hx => h (upd_false hx)), hR.s2.keep rfl, hR.w1.keepM rfl (fun h j hj => upd_on (h j hj)), hR.w4.keepM rfl (fun h j hj => upd_on (h j hj)), hR.w7.keepM rfl (fun h j hj => upd_on (h j hj)), (fun _ j hj => upd_on (hw j hj)), hR.w10.keepM rfl (fun h j hj => upd_on (h j hj)), hR.w12.keepM rfl (fun h j hj => upd_on (h j hj)), hR.w14.keepM rfl (fun h j hj => upd_on (h j hj)), hR.w15.keepM rfl (fun h j hj => upd_on (h j hj)), hR.w16.keepM rfl (fun h j hj => upd_on (h j hj)), hR.w17.keepM rfl (fun h j hj => upd_on (h j hj)), hR.w18.keepM rfl (fun h j hj => upd_on (h j hj)), hR.w19.keepM rfl (fun h j hj => upd_on (h j hj)), hR.f0.keep rfl, hR.f1.keep rfl, hR.f2.keep rfl, hR.f3.keep rfl, hR.f4.keep rfl, hR.f5.keep rfl, hR.f6.keep rfl, (fun _ => rfl), (fun _ => rfl), (fun _ => rfl), hR.f10.keep rfl, hR.f11.keep rfl, hR.f12.keep rfl, hR.f13.keep rfl, hR.f14.keep rfl, hR.f15.keep rfl, hR.f16.keep rfl, hR.f18.keep rfl⟩⟩
                  refine EachOf.cons [9] rfl (by kernel_rfl) ?_ ?_
                  · rintro L A W ⟨v, rfl, hR⟩ hi hw K hK
                    have hk : L 17 = false := hR.w17.not hi rfl
                    have e9 := hR.f9 (hw 9 (by simp))
                    simp only [e9]
                    clear e9
                    have q0 := HG.out.top k (by omega)
                    have q1 := (hR.st hk).cell (p := ⟨b, k, none⟩) HG.out.hb
                    rw [q0] at q1
                    go_simp
                    refine hK.out _ _ ?_
                    exact ⟨(fun jz => if jz = 61 then .pointer (some ⟨b, k, none⟩) else if jz = 62 then .slice (some ⟨G k, 0, none⟩) n (C k) else v jz), rfl, ⟨(fun h => hR.st (upd_false h)), hR.s1.keepM rfl (fun h hx => h (upd_false hx)), hR.s2.keep rfl, hR.w1.keepM rfl (fun h j hj => upd_on (h j hj)), hR.w4.keepM rfl (fun h j hj => upd_on (h j hj)), hR.w7.keepM rfl (fun h j hj => upd_on (h j hj)), hR.w9.keepM rfl (fun h j hj => upd_on (h j hj)), (fun _ j hj => upd_on (hw j hj)), hR.w12.keepM rfl (fun h j hj => upd_on (h j hj)), hR.w14.keepM rfl (fun h j hj => upd_on (h j hj)), hR.w15.keepM rfl (fun h j hj => upd_on (h j hj)), hR.w16.keepM rfl (fun h j hj => upd_on (h j hj)), hR.w17.keepM rfl (fun h j hj => upd_on (h j hj)), hR.w18.keepM rfl (fun h j hj => upd_on (h j hj)), hR.w19.keepM rfl (fun h j hj => upd_on (h j hj)), hR.f0.keep rfl, hR.f1.keep rfl, hR.f2.keep rfl, hR.f3.keep rfl, hR.f4.keep rfl, hR.f5.keep rfl, hR.f6.keep rfl, hR.f7.keep rfl, hR.f8.keep rfl, (fun _ => rfl), (fun _ => rfl), hR.f11.keep rfl, hR.f12.keep rfl, hR.f13.keep rfl, hR.f14.keep rfl, hR.f15.keep rfl, hR.f16.keep rfl, hR.f18.keep rfl⟩⟩
                  refine EachOf.cons [] rfl (by kernel_rfl) ?_ ?_
                  · rintro L A W ⟨v, rfl, hR⟩ hi hw K hK
                    have hk : L 17 = false := hR.w17.not (hR.w15.not (hR.w14.not (hR.w12.not hi rfl) rfl) rfl) rfl
                    go_simp
                    refine hK.out _ _ ?_
                    exact ⟨(fun jz => if jz = 63 then .pointer (some ⟨fb, 0, none⟩) else v jz), rfl, ⟨(fun h => hR.st (upd_false h)), hR.s1.keepM rfl (fun h hx => h (upd_false hx)), hR.s2.keep rfl, hR.w1.keepM rfl (fun h j hj => upd_on (h j hj)), hR.w4.keepM rfl (fun h j hj => upd_on (h j hj)), hR.w7.keepM rfl (fun h j hj => upd_on (h j hj)), hR.w9.keepM rfl (fun h j hj => upd_on (h j hj)), hR.w10.keepM rfl (fun h j hj => upd_on (h j hj)), hR.w12.keepM rfl (fun h j hj => upd_on (h j hj)), hR.w14.keepM rfl (fun h j hj => upd_on (h j hj)), hR.w15.keepM rfl (fun h j hj => upd_on (h j hj)), hR.w16.keepM rfl (fun h j hj => upd_on (h j hj)), hR.w17.keepM rfl (fun h j hj => upd_on (h j hj)), hR.w18.keepM rfl (fun h j hj => upd_on (h j hj)), hR.w19.keepM rfl (fun h j hj => upd_on (h j hj)), hR.f0.keep rfl, hR.f1.keep rfl, hR.f2.keep rfl, hR.f3.keep rfl, hR.f4.keep rfl, hR.f5.keep rfl, hR.f6.keep rfl, hR.f7.keep rfl, hR.f8.keep rfl, hR.f9.keep rfl, hR.f10.keep rfl, (fun _ => rfl), hR.f12.keep rfl, hR.f13.keep rfl, hR.f14.keep rfl, hR.f15.keep rfl, hR.f16.keep rfl, hR.f18.keep rfl⟩⟩
                  refine EachOf.cons [11] rfl (by kernel_rfl) ?_ ?_
                  · rintro L A W ⟨v, rfl, hR⟩ hi hw K hK
                    have hk : L 17 = false := hR.w17.not (hR.w15.not (hR.w14.not hi rfl) rfl) rfl
                    have e11 := hR.f11 (hw 11 (by simp))
                    simp only [e11]
                    clear e11
                    have q0 := HE.out.c0
                    have q1 := (hR.st hk).cell (p := ⟨fb, 0, none⟩) HE.out.hb
                    rw [q0] at q1
                    go_simp
                    refine hK.out _ _ ?_
                    exact ⟨(fun jz => if jz = 63 then .pointer (some ⟨fb, 0, none⟩) else if jz = 64 then .slice (some ⟨b, 0, none⟩) R Cb else v jz), rfl, ⟨(fun h => hR.st (upd_false h)), hR.s1.keepM rfl (fun h hx => h (upd_false hx)), hR.s2.keep rfl, hR.w1.keepM rfl (fun h j hj => upd_on (h j hj)), hR.w4.keepM rfl (fun h j hj => upd_on (h j hj)), hR.w7.keepM rfl (fun h j hj => upd_on (h j hj)), hR.w9.keepM rfl (fun h j hj => upd_on (h j hj)), hR.w10.keepM rfl (fun h j hj => upd_on (h j hj)), (fun _ j hj => upd_on (hw j hj)), hR.w14.keepM rfl (fun h j hj => upd_on (h j hj)), hR.w15.keepM rfl (fun h j hj => upd_on (h j hj)), hR.w16.keepM rfl (fun h j hj => upd_on (h j hj)), hR.w17.keepM rfl (fun h j hj => upd_on (h j hj)), hR.w18.keepM rfl (fun h j hj => upd_on (h j hj)), hR.w19.keepM rfl (fun h j hj => upd_on (h j hj)), hR.f0.keep rfl, hR.f1.keep rfl, hR.f2.keep rfl, hR.f3.keep rfl, hR.f4.keep rfl, hR.f5.keep rfl, hR.f6.keep rfl, hR.f7.keep rfl, hR.f8.keep rfl, hR.f9.keep rfl, hR.f10.keep rfl, (fun _ => rfl), (fun _ => rfl), hR.f13.keep rfl, hR.f14.keep rfl, hR.f15.keep rfl, hR.f16.keep rfl, hR.f18.keep rfl⟩⟩
                  refine EachOf.cons [] rfl (by kernel_rfl) ?_ ?_
                  · rintro L A W ⟨v, rfl, hR⟩ hi hw K hK
                    have hk : L 17 = false := hR.w17.not (hR.w15.not (hR.w14.not hi rfl) rfl) rfl
                    go_simp
                    refine hK.out _ _ ?_
                    exact ⟨(fun jz => if jz = 65 then .int .i64 (q : Int) else v jz), rfl, ⟨(fun h => hR.st (upd_false h)), hR.s1.keepM rfl (fun h hx => h (upd_false hx)), hR.s2.keep rfl, hR.w1.keepM rfl (fun h j hj => upd_on (h j hj)), hR.w4.keepM rfl (fun h j hj => upd_on (h j hj)), hR.w7.keepM rfl (fun h j hj => upd_on (h j hj)), hR.w9.keepM rfl (fun h j hj => upd_on (h j hj)), hR.w10.keepM rfl (fun h j hj => upd_on (h j hj)), hR.w12.keepM rfl (fun h j hj => upd_on (h j hj)), hR.w14.keepM rfl (fun h j hj => upd_on (h j hj)), hR.w15.keepM rfl (fun h j hj => upd_on (h j hj)), hR.w16.keepM rfl (fun h j hj => upd_on (h j hj)), hR.w17.keepM rfl (fun h j hj => upd_on (h j hj)), hR.w18.keepM rfl (fun h j hj => upd_on (h j hj)), hR.w19.keepM rfl (fun h j hj => upd_on (h j hj)), hR.f0.keep rfl, hR.f1.keep rfl, hR.f2.keep rfl, hR.f3.keep rfl, hR.f4.keep rfl, hR.f5.keep rfl, hR.f6.keep rfl, hR.f7.keep rfl, hR.f8.keep rfl, hR.f9.keep rfl, hR.f10.keep rfl, hR.f11.keep rfl, hR.f12.keep rfl, (fun _ => rfl), hR.f14.keep rfl, hR.f15.keep rfl, hR.f16.keep rfl, hR.f18.keep rfl⟩⟩
                  refine EachOf.cons [12, 13] rfl (by kernel_rfl) ?_ ?_
                  · rintro L A W ⟨v, rfl, hR⟩ hi hw K hK
                    have hk : L 17 = false := hR.w17.not (hR.w15.not hi rfl) rfl
                    have e12 := hR.f12 (hw 12 (by simp))
                    have e13 := hR.f13 (hw 13 (by simp))
                    simp only [e12, e13]
                    clear e12 e13
                    go_simp
                    refine hK.out _ _ ?_
                    exact ⟨(fun jz => if jz = 64 then .slice (some ⟨b, 0, none⟩) R Cb else if jz = 65 then .int .i64 (q : Int) else if jz = 66 then .pointer (some ⟨b, q, none⟩) else v jz), rfl, ⟨(fun h => hR.st (upd_false h)), hR.s1.keepM rfl (fun h hx => h (upd_false hx)), hR.s2.keep rfl, hR.w1.keepM rfl (fun h j hj => upd_on (h j hj)), hR.w4.keepM rfl (fun h j hj => upd_on (h j hj)), hR.w7.keepM rfl (fun h j hj => upd_on (h j hj)), hR.w9.keepM rfl (fun h j hj => upd_on (h j hj)), hR.w10.keepM rfl (fun h j hj => upd_on (h j hj)), hR.w12.keepM rfl (fun h j hj => upd_on (h j hj)), (fun _ j hj => upd_on (hw j hj)), hR.w15.keepM rfl (fun h j hj => upd_on (h j hj)), hR.w16.keepM rfl (fun h j hj => upd_on (h j hj)), hR.w17.keepM rfl (fun h j hj => upd_on (h j hj)), hR.w18.keepM rfl (fun h j hj => upd_on (h j hj)), hR.w19.keepM rfl (fun h j hj => upd_on (h j hj)), hR.f0.keep rfl, hR.f1.keep rfl, hR.f2.keep rfl, hR.f3.keep rfl, hR.f4.keep rfl, hR.f5.keep rfl, hR.f6.keep rfl, hR.f7.keep rfl, hR.f8.keep rfl, hR.f9.keep rfl, hR.f10.keep rfl, hR.f11.keep rfl, (fun _ => rfl), (fun _ => rfl), (fun _ => rfl), hR.f15.keep rfl, hR.f16.keep rfl, hR.f18.keep rfl⟩⟩
                  refine EachOf.cons [14] rfl (by kernel_rfl) ?_ ?_
                  · rintro L A W ⟨v, rfl, hR⟩ hi hw K hK
                    have hk : L 17 = false := hR.w17.not hi rfl
                    have e14 := hR.f14 (hw 14 (by simp))
                    simp only [e14]
                    clear e14
                    have q0 := HG.out.top q (by omega)
                    have q1 := (hR.st hk).cell (p := ⟨b, q, none⟩) HG.out.hb
                    rw [q0] at q1
                    go_simp
                    refine hK.out _ _ ?_
                    exact ⟨(fun jz => if jz = 66 then .pointer (some ⟨b, q, none⟩) else if jz = 67 then .slice (some ⟨G q, 0, none⟩) n (C q) else v jz), rfl, ⟨(fun h => hR.st (upd_false h)), hR.s1.keepM rfl (fun h hx => h (upd_false hx)), hR.s2.keep rfl, hR.w1.keepM rfl (fun h j hj => upd_on (h j hj)), hR.w4.keepM rfl (fun h j hj => upd_on (h j hj)), hR.w7.keepM rfl (fun h j hj => upd_on (h j hj)), hR.w9.keepM rfl (fun h j hj => upd_on (h j hj)), hR.w10.keepM rfl (fun h j hj => upd_on (h j hj)), hR.w12.keepM rfl (fun h j hj => upd_on (h j hj)), hR.w14.keepM rfl (fun h j hj => upd_on (h j hj)), (fun _ j hj => upd_on (hw j hj)), hR.w16.keepM rfl (fun h j hj => upd_on (h j hj)), hR.w17.keepM rfl (fun h j hj => upd_on (h j hj)), hR.w18.keepM rfl (fun h j hj => upd_on (h j hj)), hR.w19.keepM rfl (fun h j hj => upd_on (h j hj)), hR.f0.keep rfl, hR.f1.keep rfl, hR.f2.keep rfl, hR.f3.keep rfl, hR.f4.keep rfl, hR.f5.keep rfl, hR.f6.keep rfl, hR.f7.keep rfl, hR.f8.keep rfl, hR.f9.keep rfl, hR.f10.keep rfl, hR.f11.keep rfl, hR.f12.keep rfl, hR.f13.keep rfl, (fun _ => rfl), (fun _ => rfl), hR.f16.keep rfl, hR.f18.keep rfl⟩⟩
                  refine EachOf.cons [1, 2] rfl (by kernel_rfl) ?_ ?_
                  · rintro L A W ⟨v, rfl, hR⟩ hi hw K hK
                    have hk : L 17 = false := hR.w17.not hi rfl
                    have e1 := hR.f1 (hw 1 (by simp))
                    have e2 := hR.f2 (hw 2 (by simp))
                    simp only [e1, e2]
                    clear e1 e2
                    go_simp
                    refine hK.out _ _ ?_
                    exact ⟨(fun jz => if jz = 53 then .slice (some ⟨b, 0, none⟩) R Cb else if jz = 54 then .int .i64 (q : Int) else if jz = 68 then .pointer (some ⟨b, q, none⟩) else v jz), rfl, ⟨(fun h => hR.st (upd_false h)), hR.s1.keepM rfl (fun h hx => h (upd_false hx)), hR.s2.keep rfl, hR.w1.keepM rfl (fun h j hj => upd_on (h j hj)), hR.w4.keepM rfl (fun h j hj => upd_on (h j hj)), hR.w7.keepM rfl (fun h j hj => upd_on (h j hj)), hR.w9.keepM rfl (fun h j hj => upd_on (h j hj)), hR.w10.keepM rfl (fun h j hj => upd_on (h j hj)), hR.w12.keepM rfl (fun h j hj => upd_on (h j hj)), hR.w14.keepM rfl (fun h j hj => upd_on (h j hj)), hR.w15.keepM rfl (fun h j hj => upd_on (h j hj)), (fun _ j hj => upd_on (hw j hj)), hR.w17.keepM rfl (fun h j hj => upd_on (h j hj)), hR.w18.keepM rfl (fun h j hj => upd_on (h j hj)), hR.w19.keepM rfl (fun h j hj => upd_on (h j hj)), hR.f0.keep rfl, (fun _ => rfl), (fun _ => rfl), hR.f3.keep rfl, hR.f4.keep rfl, hR.f5.keep rfl, hR.f6.keep rfl, hR.f7.keep rfl, hR.f8.keep rfl, hR.f9.keep rfl, hR.f10.keep rfl, hR.f11.keep rfl, hR.f12.keep rfl, hR.f13.keep rfl, hR.f14.keep rfl, hR.f15.keep rfl, (fun _ => rfl), hR.f18.keep rfl⟩⟩
                  refine EachOf.cons [0, 1, 2, 6, 7, 8, 9, 10, 15, 16] rfl (by kernel_rfl) ?_ ?_
                  · rintro L A W ⟨v, rfl, hR⟩ hi hw K hK
                    have e16 := hR.f16 (hw 16 (by simp))
                    have e10 := hR.f10 (hw 10 (by simp))
                    simp only [e16, e10]
                    clear e16 e10
                    have hk2 : L 19 = false := hR.w19.not hi rfl
                    have q1 := (hR.st hi).cell (p := ⟨b, q, none⟩) HG.out.hb
                    rw [HG.out.top q (by omega)] at q1
                    have q2 := (hR.st hi).frozen (p := ⟨b, q, none⟩) HG.out.hb
                    rw [HG.out.tfz q (by omega)] at q2
                    go_simp
                    refine hK.out _ _ ?_
                    exact ⟨(fun jz => if jz = 68 then .pointer (some ⟨b, q, none⟩) else if jz = 62 then .slice (some ⟨G k, 0, none⟩) n (C k) else v jz), rfl, ⟨(fun h => by simp [upd_self] at h), (fun _ _ => ⟨W, hR.st hi, rfl⟩), (fun h => absurd (upd_back h rfl) (by simp [hk2])), hR.w1.keepM rfl (fun h j hj => upd_on (h j hj)), hR.w4.keepM rfl (fun h j hj => upd_on (h j hj)), hR.w7.keepM rfl (fun h j hj => upd_on (h j hj)), hR.w9.keepM rfl (fun h j hj => upd_on (h j hj)), hR.w10.keepM rfl (fun h j hj => upd_on (h j hj)), hR.w12.keepM rfl (fun h j hj => upd_on (h j hj)), hR.w14.keepM rfl (fun h j hj => upd_on (h j hj)), hR.w15.keepM rfl (fun h j hj => upd_on (h j hj)), hR.w16.keepM rfl (fun h j hj => upd_on (h j hj)), (fun _ j hj => upd_on (hw j hj)), hR.w18.keepM rfl (fun h j hj => upd_on (h j hj)), hR.w19.keepM rfl (fun h j hj => upd_on (h j hj)), hR.f0.keep rfl, hR.f1.keep rfl, hR.f2.keep rfl, hR.f3.keep rfl, hR.f4.keep rfl, hR.f5.keep rfl, hR.f6.keep rfl, hR.f7.keep rfl, hR.f8.keep rfl, hR.f9.keep rfl, (fun _ => rfl), hR.f11.keep rfl, hR.f12.keep rfl, hR.f13.keep rfl, hR.f14.keep rfl, hR.f15.keep rfl, (fun _ => rfl), hR.f18.keep rfl⟩⟩
                  refine EachOf.cons [0, 1, 2, 3, 4, 5, 6, 7, 8, 9, 10, 11, 12, 13, 14, 15, 16, 17] rfl (by kernel_rfl) ?_ ?_
                  · rintro L A W ⟨v, rfl, hR⟩ hi hw K hK
                    have e4 := hR.f4 (hw 4 (by simp))
                    have e5 := hR.f5 (hw 5 (by simp))
                    simp only [e4, e5]
                    clear e4 e5
                    have hk2 : L 19 = false := hR.w19.not hi rfl
                    go_simp
                    refine hK.out _ _ ?_
                    exact ⟨(fun jz => if jz = 56 then .slice (some ⟨b, 0, none⟩) R Cb else if jz = 57 then .int .i64 (k : Int) else if jz = 69 then .pointer (some ⟨b, k, none⟩) else v jz), rfl, ⟨(fun h => absurd (hw 17 (by simp)) (by simp [upd_false h])), hR.s1.keepM rfl (fun h hx => h (upd_false hx)), (fun h => absurd (upd_back h rfl) (by simp [hk2])), hR.w1.keepM rfl (fun h j hj => upd_on (h j hj)), hR.w4.keepM rfl (fun h j hj => upd_on (h j hj)), hR.w7.keepM rfl (fun h j hj => upd_on (h j hj)), hR.w9.keepM rfl (fun h j hj => upd_on (h j hj)), hR.w10.keepM rfl (fun h j hj => upd_on (h j hj)), hR.w12.keepM rfl (fun h j hj => upd_on (h j hj)), hR.w14.keepM rfl (fun h j hj => upd_on (h j hj)), hR.w15.keepM rfl (fun h j hj => upd_on (h j hj)), hR.w16.keepM rfl (fun h j hj => upd_on (h j hj)), hR.w17.keepM rfl (fun h j hj => upd_on (h j hj)), (fun _ j hj => upd_on (hw j hj)), hR.w19.keepM rfl (fun h j hj => upd_on (h j hj)), hR.f0.keep rfl, hR.f1.keep rfl, hR.f2.keep rfl, hR.f3.keep rfl, (fun _ => rfl), (fun _ => rfl), hR.f6.keep rfl, hR.f7.keep rfl, hR.f8.keep rfl, hR.f9.keep rfl, hR.f10.keep rfl, hR.f11.keep rfl, hR.f12.keep rfl, hR.f13.keep rfl, hR.f14.keep rfl, hR.f15.keep rfl, hR.f16.keep rfl, (fun _ => rfl)⟩⟩
                  refine EachOf.cons [0, 1, 2, 3, 4, 5, 6, 7, 8, 9, 10, 11, 12, 13, 14, 15, 16, 17, 18] rfl (by kernel_rfl) ?_ ?_
                  · rintro L A W ⟨v, rfl, hR⟩ hi hw K hK
                    have e18 := hR.f18 (hw 18 (by simp))
                    have e15 := hR.f15 (hw 15 (by simp))
                    simp only [e18, e15]
                    clear e18 e15
                    obtain ⟨W2, hb2, hW⟩ := hR.s1 (hw 17 (by simp)) hi
                    have q1 := hb2.cell (p := ⟨b, k, none⟩) HG.out.hb
                    rw [HG.out.top k (by omega)] at q1
                    have q2 := hb2.frozen (p := ⟨b, k, none⟩) HG.out.hb
                    rw [HG.out.tfz k (by omega)] at q2
                    have q3 : W.cell? ⟨b, k, none⟩ = some (.slice (some ⟨G k, 0, none⟩) n (C k)) := by rw [hW, World.cell?_setCell_other _ _ _ _ (adr_ne (b := b) (i := q) (j := k) (by omega))]; exact q1
                    have q4 : W.frozen? ⟨b, k, none⟩ = false := by rw [hW]; simpa using q2
                    clear q1 q2
                    have HW := Lib.hid hW
                    clear hW
                    go_simp
                    refine hK.out _ _ ?_
                    exact ⟨(fun jz => if jz = 69 then .pointer (some ⟨b, k, none⟩) else if jz = 67 then .slice (some ⟨G q, 0, none⟩) n (C q) else v jz), rfl, ⟨(fun h => absurd (hw 17 (by simp)) (by simp [upd_false h])), (fun _ h => by simp [upd_self] at h), (fun _ => ⟨W2, hb2, by rw [HW.out]⟩), hR.w1.keepM rfl (fun h j hj => upd_on (h j hj)), hR.w4.keepM rfl (fun h j hj => upd_on (h j hj)), hR.w7.keepM rfl (fun h j hj => upd_on (h j hj)), hR.w9.keepM rfl (fun h j hj => upd_on (h j hj)), hR.w10.keepM rfl (fun h j hj => upd_on (h j hj)), hR.w12.keepM rfl (fun h j hj => upd_on (h j hj)), hR.w14.keepM rfl (fun h j hj => upd_on (h j hj)), hR.w15.keepM rfl (fun h j hj => upd_on (h j hj)), hR.w16.keepM rfl (fun h j hj => upd_on (h j hj)), hR.w17.keepM rfl (fun h j hj => upd_on (h j hj)), hR.w18.keepM rfl (fun h j hj => upd_on (h j hj)), (fun _ j hj => upd_on (hw j hj)), hR.f0.keep rfl, hR.f1.keep rfl, hR.f2.keep rfl, hR.f3.keep rfl, hR.f4.keep rfl, hR.f5.keep rfl, hR.f6.keep rfl, hR.f7.keep rfl, hR.f8.keep rfl, hR.f9.keep rfl, hR.f10.keep rfl, hR.f11.keep rfl, hR.f12.keep rfl, hR.f13.keep rfl, hR.f14.keep rfl, (fun _ => rfl), hR.f16.keep rfl, (fun _ => rfl)⟩⟩
                  exact EachOf.nil
                rintro L A W ⟨v, rfl, hR⟩ hL
                obtain ⟨W4, hb4, hW⟩ := hR.s2 (hL 19 (by simp))
                have g4 := S.out.1.on hb4
                have G5 := g4.g.swap k q hkq2 hq
                have eW : W = (W4.setCell ⟨b, k, none⟩ (.slice (some ⟨G q, 0, none⟩) n (C q))).setCell ⟨b, q, none⟩ (.slice (some ⟨G k, 0, none⟩) n (C k)) := by
                  first
                    | exact hW
                    | (rw [hW]; exact setCell_swap _ _ _ _ _ _ (by omega))
                rw [← eW] at G5
                have O5 : Only (fun c => c = b) W4 W := by
                  rw [eW]
                  exact (only_set W4 ⟨b, k, none⟩ _).trans (only_set _ ⟨b, q, none⟩ _)
                have T1 := g4.swapS k q hkq2 hq G5 O5
                have T2 := (S.out.2.1.on hb4).only O5 g4.ne
                have T3 := (S.out.2.2.on hb4).only O5 (fun c hc => by rw [hc]; exact g4.g.lb)
                have HT := Lib.hid (And.intro T1 (And.intro T2 T3))
                have HI2 := HI.out.swap q hkq2 hq
                rw [← sO_not] at HI2
                have HJ := Lib.hid HI2
                have n3 : Hid (swE k q E k c ≠ 0) := by show swE k q E k c ≠ 0; unfold swE; rw [if_pos rfl]; exact HNZ.out
                clear g4 G5 eW hW O5 T1 T2 T3 hb4 hR hL HI2 HE HG S HI HNZ W4
                have x3 := HT.out.2.1.c3
                have y3 := HT.out.2.1.f3
                go_wp2_with fail
                clear x3 y3
                go_meet
                have HT6 := HT.out.1.e
                refine ⟨swN k q G, swN k q C, swE k q U, swE k q E, !od, ⟨?_, HT.out.2.1.set _, HT.out.2.2.set ⟨fb, 3, none⟩ HT.out.1.le _⟩, HJ, n3⟩
                have o6 := only_set W ⟨fb, 3, none⟩ (.bool (!od))
                refine ⟨⟨by simpa using HT6.hb, ?_, ?_, ?_, by simpa using HT6.f0, by simpa using HT6.f1, by simpa using HT6.f2⟩, HT.out.1.g.only o6 (fun e => HT.out.1.ne e.symm) (fun i hi e => HT.out.1.nr i hi e), own_only HT.out.1.o o6 (fun q hq e => (HT.out.1.pb q hq).1 e), HT.out.1.ne, HT.out.1.nr, HT.out.1.pb, HT.out.1.le, HT.out.1.cb⟩
                · rw [World.cell?_setCell_other _ _ _ _ (adr_ne (b := fb) (i := 3) (j := 0) (by omega))]; exact HT6.c0
                · rw [World.cell?_setCell_other _ _ _ _ (adr_ne (b := fb) (i := 3) (j := 1) (by omega))]; exact HT6.c1
                · rw [World.cell?_setCell_other _ _ _ _ (adr_ne (b := fb) (i := 3) (j := 2) (by omega))]; exact HT6.c2
            case rest =>
              clear S HI HNZ Z hzb nqR
              obtain ⟨G, C, U, E, od, HS3, HI3, n3⟩ := hcut
              rename World => W1
              obtain ⟨P, hP1, hP2, hP3⟩ := HI3.out.pivot hc hkR2 n3.out
              have HP1 := Lib.hid hP1
              have HP2 := Lib.hid hP2
              have HP3 := Lib.hid hP3
              clear hP1 hP2 hP3
              have q0 := HS3.out.1.e.c0
              have q1 := HS3.out.1.g.top k hkR2
              have q2 := HS3.out.1.g.cell k c hkR2 hc
              obtain ⟨vd, hvd⟩ : ∃ x, E k c = x := ⟨_, rfl⟩
              rw [hvd] at q2
              have HVD := Lib.hid hvd
              clear hvd
              go_wp2_with fail
              clear q0 q1 q2
              have S0 : Hid (ESt (rb + 1) W1 fb b R n Cb G C (mixE k 0 0 P E) (.slice pa k pc) k p D ∧ OBl W1 fb (.bool od) ∧ ROut w W1 rb) := ⟨by rw [mix_zero]; exact HS3.out.1, HS3.out.2⟩
              clear HS3
              go_loopg [10] R (fun g s10 wx => ∃ i : Nat, s10 = .int .i64 i ∧ g = R - i ∧ i ≤ R ∧ Hid (ESt (rb + 1) wx fb b R n Cb G C (mixE k i 0 P E) (.slice pa k pc) k p D ∧ OBl wx fb (.bool od) ∧ ROut w wx rb))
              case atStart => exact ⟨0, rfl, rfl, Nat.zero_le _, S0⟩
              case round =>
                clear S0
                obtain ⟨i, rfl, rfl, hi, S⟩ := hrel
                rename World => W2
                by_cases hlti : i < R
                · have wki : IntKind.i64.wrap ((i : Int) + 1) = ((i + 1 : Nat) : Int) := by rw [IntWalk.i64_in _ (by omega)]; omega
                  by_cases e : i = k
                  · subst e
                    go_wp2_with fail
                    go_roundg (R - (i + 1))
                    case measure => omega
                    case rel => exact ⟨i + 1, rfl, rfl, by omega, by rw [mix_skip]; exact S.out.1, S.out.2⟩
                  · have ne : ¬ ((i : Int) = (k : Int)) := by omega
                    have p0 := S.out.1.e.c0
                    have p1 := S.out.1.g.top i hlti
                    have p3 := S.out.1.g.cell i c hlti hc
                    rw [mix_at k i 0 c P E (Nat.zero_le _)] at p3
                    obtain ⟨vb, hf⟩ : ∃ f, E i c = f := ⟨_, rfl⟩
                    rw [hf] at p3
                    have HF := Lib.hid hf
                    have HNE := Lib.hid e
                    clear hf e
                    go_wp2_with fail
                    clear p0 p1 p3 ne
                    (try generalize ((i : Int) == (k : Int)) = tb)
                    go_loopg [12] n (fun g s12 wx => ∃ j : Nat, s12 = .int .i64 j ∧ g = n - j ∧ j ≤ n ∧ Hid (ESt (rb + 1) wx fb b R n Cb G C (mixE k i j P E) (.slice pa k pc) k p D ∧ OBl wx fb (.bool od) ∧ ROut w wx rb))
                    case atStart => exact ⟨0, rfl, rfl, Nat.zero_le _, S⟩
                    case round =>
                      clear S
                      obtain ⟨j, rfl, rfl, hj, S⟩ := hrel
                      rename World => W3
                      have p0 := S.out.1.e.c0
                      have p1 := S.out.1.g.top i hlti
                      by_cases hltj : j < n
                      · have wkj : IntKind.i64.wrap ((j : Int) + 1) = ((j + 1 : Nat) : Int) := by rw [IntWalk.i64_in _ (by omega)]; omega
                        have LM : Hid (W3.cell? ⟨fb, 0, none⟩ = some (.slice (some ⟨b, 0, none⟩) R Cb) ∧ fb < W3.heap.size) := ⟨p0, S.out.1.e.hb⟩
                        have LI : Hid (W3.cell? ⟨b, i, none⟩ = some (.slice (some ⟨G i, 0, none⟩) n (C i)) ∧ b < W3.heap.size) := ⟨p1, S.out.1.g.hb⟩
                        have LK : Hid (W3.cell? ⟨b, k, none⟩ = some (.slice (some ⟨G k, 0, none⟩) n (C k)) ∧ b < W3.heap.size) := ⟨S.out.1.g.top k hkR2, S.out.1.g.hb⟩
                        have LA : Hid (W3.cell? ⟨G i, j, none⟩ = some (.int .i64 (E i j)) ∧ G i < W3.heap.size) := ⟨by rw [S.out.1.g.cell i j hlti hltj, mix_at k i j j P E (Nat.le_refl _)], (S.out.1.g.row i hlti).2.1⟩
                        have LC : Hid (W3.cell? ⟨G k, j, none⟩ = some (.int .i64 (E k j)) ∧ G k < W3.heap.size) := ⟨by rw [S.out.1.g.cell k j hkR2 hltj, mix_own], (S.out.1.g.row k hkR2).2.1⟩
                        have LL : Hid (W3.cell? ⟨fb, 2, none⟩ = some (.int .i64 D) ∧ fb < W3.heap.size) := ⟨S.out.1.e.c2, S.out.1.e.hb⟩
                        have LF : Hid (W3.frozen? ⟨G i, j, none⟩ = false) := S.out.1.g.fz i j hlti hltj
                        have hs := HI3.out.small
                        have hs2 := HP1.out.small.2 i j hlti hltj
                        have h1 := hs.2 k c hkR2 hc
                        have h2 := hs.2 i j hlti hltj
                        have h3 := hs.2 i c hlti hc
                        have h4 := hs.2 k j hkR2 hltj
                        have h5 := hs.1
                        rw [HF.out] at h3
                        have HQ := HP3.out i j hlti HNE.out
                        rw [HF.out, HVD.out] at HQ
                        rw [HVD.out] at h1
                        have CR := fun W => Lib.hid (refCross_any (E i j) vb (E k j) vd D (P i j) W (by omega) (by omega) (by omega) (by omega) (by omega) (by omega) (by omega) (by omega) HI3.out.el.nz (by omega) (by omega) (by omega) (by omega) (by rw [HQ, Int.mul_comm vd]))
                        clear hs hs2 h1 h2 h3 h4 h5 HQ p0
                        obtain ⟨va, hva⟩ : ∃ x, E i j = x := ⟨_, rfl⟩
                        obtain ⟨vc, hvc⟩ : ∃ x, E k j = x := ⟨_, rfl⟩
                        obtain ⟨r, hr⟩ : ∃ x, P i j = x := ⟨_, rfl⟩
                        rw [hva] at LA
                        rw [hvc] at LC
                        rw [hva, hvc, hr] at CR
                        have HR := Lib.hid hr
                        have p0 := LM.out.1
                        clear hva hvc hr
                        go_upto_region 22 with fail
                        clear p0 p1
                        refine wp_region_each (fun L A W => ∃ (v : Nat → Value), A = ⟨#[_, _, _, _, _, _, _, _, _, _, _, _, _, _, _, _, _, _, _, _, _, _, _, _, _, _, _, _, _, _, _, _, _, _, _, _, _, _, _, _, _, _, _, _, _, _, _, _, _, _, _, _, _, _, _, _, _, _, _, _, _, _, _, _, _, _, _, _, _, _, _, _, _, _, _, _, _, _, _, _, _, _, _, _, _, _, _, _, _, _, _, _, _, _, _, _, _, _, _, _, _, _, _, _, _, _, _, _, _, v 109, v 110, v 111, v 112, v 113, v 114, v 115, v 116, v 117, v 118, v 119, v 120, v 121, v 122, v 123, v 124, v 125, v 126, v 127, v 128, v 129, v 130, v 131, v 132, v 133, v 134, v 135, v 136, _, _, _, _, _, _, _, _, _, _, _], []⟩ ∧ RElR fb b R n Cb k i j G C va vb vc vd D r W3 L v W) (by kernel_rfl) (by kernel_rfl) ⟨fun jz => if jz = 109 then u109 else if jz = 110 then u110 else if jz = 111 then u111 else if jz = 112 then u112 else if jz = 113 then u113 else if jz = 114 then u114 else if jz = 115 then u115 else if jz = 116 then u116 else if jz = 117 then u117 else if jz = 118 then u118 else if jz = 119 then u119 else if jz = 120 then u120 else if jz = 121 then u121 else if jz = 122 then u122 else if jz = 123 then u123 else if jz = 124 then u124 else if jz = 125 then u125 else if jz = 126 then u126 else if jz = 127 then u127 else if jz = 128 then u128 else if jz = 129 then u129 else if jz = 130 then u130 else if jz = 131 then u131 else if jz = 132 then u132 else if jz = 133 then u133 else if jz = 134 then u134 else if jz = 135 then u135 else if jz = 136 then u136 else undef, rfl, ⟨(fun _ => Below.drew (Below.refl _ _)), Had.none, Had.none, Had.none, Had.none, Had.none, Had.none, Had.none, Had.none, Had.none, Had.none, Had.none, Had.none, Had.none, Had.none, Had.none, Had.none, Had.none, Had.none, Had.none, Had.none, Had.none, Had.none, Had.none, Had.none, Had.none, Had.none, Had.none, Had.none, Had.none, Had.none, Had.none, Had.none, Had.none, Had.none, Had.none, Had.none, Had.none, Had.none, Had.none, Had.none, Had.none, Had.none, Had.none, Had.none, Had.none, Had.none⟩⟩ (rs := [0, 1, 2, 3, 4, 5, 6, 7, 8, 9, 10, 11, 12, 13, 14, 15, 16, 17, 18, 19, 20, 21, 22, 23, 24, 25, 26, 27, 28]) (by kernel_rfl) ?_ ?_
                        · refine EachOf.cons [] rfl (by kernel_rfl) ?_ ?_
                          · rintro L A W ⟨v, rfl, hR⟩ hi hw K hK
                            have hk : L 28 = false := hR.w28.not hi rfl
                            go_simp
                            refine hK.out _ _ ?_
                            exact ⟨(fun jz => if jz = 109 then .pointer (some ⟨fb, 0, none⟩) else v jz), rfl, ⟨(fun h => hR.st (upd_false h)), hR.s1.keep rfl, hR.w1.keepM rfl (fun h j hj => upd_on (h j hj)), hR.w3.keepM rfl (fun h j hj => upd_on (h j hj)), hR.w4.keepM rfl (fun h j hj => upd_on (h j hj)), hR.w7.keepM rfl (fun h j hj => upd_on (h j hj)), hR.w9.keepM rfl (fun h j hj => upd_on (h j hj)), hR.w10.keepM rfl (fun h j hj => upd_on (h j hj)), hR.w12.keepM rfl (fun h j hj => upd_on (h j hj)), hR.w13.keepM rfl (fun h j hj => upd_on (h j hj)), hR.w16.keepM rfl (fun h j hj => upd_on (h j hj)), hR.w18.keepM rfl (fun h j hj => upd_on (h j hj)), hR.w19.keepM rfl (fun h j hj => upd_on (h j hj)), hR.w21.keepM rfl (fun h j hj => upd_on (h j hj)), hR.w22.keepM rfl (fun h j hj => upd_on (h j hj)), hR.w25.keepM rfl (fun h j hj => upd_on (h j hj)), hR.w26.keepM rfl (fun h j hj => upd_on (h j hj)), hR.w27.keepM rfl (fun h j hj => upd_on (h j hj)), hR.w28.keepM rfl (fun h j hj => upd_on (h j hj)), (fun _ => rfl), hR.f1.keep rfl, hR.f2.keep rfl, hR.f3.keep rfl, hR.f4.keep rfl, hR.f5.keep rfl, hR.f6.keep rfl, hR.f7.keep rfl, hR.f8.keep rfl, hR.f9.keep rfl, hR.f10.keep rfl, hR.f11.keep rfl, hR.f12.keep rfl, hR.f13.keep rfl, hR.f14.keep rfl, hR.f15.keep rfl, hR.f16.keep rfl, hR.f17.keep rfl, hR.f18.keep rfl, hR.f19.keep rfl, hR.f20.keep rfl, hR.f21.keep rfl, hR.f22.keep rfl, hR.f23.keep rfl, hR.f24.keep rfl, hR.f25.keep rfl, hR.f26.keep rfl, hR.f27.keep rfl⟩⟩
                          refine EachOf.cons [0] rfl (by kernel_rfl) ?_ ?_
                          · rintro L A W ⟨v, rfl, hR⟩ hi hw K hK
                            have hk : L 28 = false := hR.w28.not hi rfl
                            have e0 := hR.f0 (hw 0 (by simp))
                            simp only [e0]
                            clear e0
                            have q0 := ((hR.st hk).cell (p := ⟨fb, 0, none⟩) LM.out.2).trans LM.out.1
                            go_simp
                            refine hK.out _ _ ?_
                            exact ⟨(fun jz => if jz = 109 then .pointer (some ⟨fb, 0, none⟩) else if jz = 110 then .slice (some ⟨b, 0, none⟩) (R) (Cb) else v jz), rfl, ⟨(fun h => hR.st (upd_false h)), hR.s1.keep rfl, (fun _ j hj => upd_on (hw j hj)), hR.w3.keepM rfl (fun h j hj => upd_on (h j hj)), hR.w4.keepM rfl (fun h j hj => upd_on (h j hj)), hR.w7.keepM rfl (fun h j hj => upd_on (h j hj)), hR.w9.keepM rfl (fun h j hj => upd_on (h j hj)), hR.w10.keepM rfl (fun h j hj => upd_on (h j hj)), hR.w12.keepM rfl (fun h j hj => upd_on (h j hj)), hR.w13.keepM rfl (fun h j hj => upd_on (h j hj)), hR.w16.keepM rfl (fun h j hj => upd_on (h j hj)), hR.w18.keepM rfl (fun h j hj => upd_on (h j hj)), hR.w19.keepM rfl (fun h j hj => upd_on (h j hj)), hR.w21.keepM rfl (fun h j hj => upd_on (h j hj)), hR.w22.keepM rfl (fun h j hj => upd_on (h j hj)), hR.w25.keepM rfl (fun h j hj => upd_on (h j hj)), hR.w26.keepM rfl (fun h j hj => upd_on (h j hj)), hR.w27.keepM rfl (fun h j hj => upd_on (h j hj)), hR.w28.keepM rfl (fun h j hj => upd_on (h j hj)), (fun _ => rfl), (fun _ => rfl), hR.f2.keep rfl, hR.f3.keep rfl, hR.f4.keep rfl, hR.f5.keep rfl, hR.f6.keep rfl, hR.f7.keep rfl, hR.f8.keep rfl, hR.f9.keep rfl, hR.f10.keep rfl, hR.f11.keep rfl, hR.f12.keep rfl, hR.f13.keep rfl, hR.f14.keep rfl, hR.f15.keep rfl, hR.f16.keep rfl, hR.f17.keep rfl, hR.f18.keep rfl, hR.f19.keep rfl, hR.f20.keep rfl, hR.f21.keep rfl, hR.f22.keep rfl, hR.f23.keep rfl, hR.f24.keep rfl, hR.f25.keep rfl, hR.f26.keep rfl, hR.f27.keep rfl⟩⟩
                          refine EachOf.cons [] rfl (by kernel_rfl) ?_ ?_
                          · rintro L A W ⟨v, rfl, hR⟩ hi hw K hK
                            have hk : L 28 = false := hR.w28.not hi rfl
                            go_simp
                            refine hK.out _ _ ?_
                            exact ⟨(fun jz => if jz = 111 then .int .i64 (i : Int) else v jz), rfl, ⟨(fun h => hR.st (upd_false h)), hR.s1.keep rfl, hR.w1.keepM rfl (fun h j hj => upd_on (h j hj)), hR.w3.keepM rfl (fun h j hj => upd_on (h j hj)), hR.w4.keepM rfl (fun h j hj => upd_on (h j hj)), hR.w7.keepM rfl (fun h j hj => upd_on (h j hj)), hR.w9.keepM rfl (fun h j hj => upd_on (h j hj)), hR.w10.keepM rfl (fun h j hj => upd_on (h j hj)), hR.w12.keepM rfl (fun h j hj => upd_on (h j hj)), hR.w13.keepM rfl (fun h j hj => upd_on (h j hj)), hR.w16.keepM rfl (fun h j hj => upd_on (h j hj)), hR.w18.keepM rfl (fun h j hj => upd_on (h j hj)), hR.w19.keepM rfl (fun h j hj => upd_on (h j hj)), hR.w21.keepM rfl (fun h j hj => upd_on (h j hj)), hR.w22.keepM rfl (fun h j hj => upd_on (h j hj)), hR.w25.keepM rfl (fun h j hj => upd_on (h j hj)), hR.w26.keepM rfl (fun h j hj => upd_on (h j hj)), hR.w27.keepM rfl (fun h j hj => upd_on (h j hj)), hR.w28.keepM rfl (fun h j hj => upd_on (h j hj)), hR.f0.keep rfl, hR.f1.keep rfl, (fun _ => rfl), hR.f3.keep rfl, hR.f4.keep rfl, hR.f5.keep rfl, hR.f6.keep rfl, hR.f7.keep rfl, hR.f8.keep rfl, hR.f9.keep rfl, hR.f10.keep rfl, hR.f11.keep rfl, hR.f12.keep rfl, hR.f13.keep rfl, hR.f14.keep rfl, hR.f15.keep rfl, hR.f16.keep rfl, hR.f17.keep rfl, hR.f18.keep rfl, hR.f19.keep rfl, hR.f20.keep rfl, hR.f21.keep rfl, hR.f22.keep rfl, hR.f23.keep rfl, hR.f24.keep rfl, hR.f25.keep rfl, hR.f26.keep rfl, hR.f27.keep rfl⟩⟩
                          refine EachOf.cons [1, 2] rfl (by kernel_rfl) ?_ ?_
                          · rintro L A W ⟨v, rfl, hR⟩ hi hw K hK
                            have hk : L 28 = false := hR.w28.not hi rfl
                            have e1 := hR.f1 (hw 1 (by simp))
                            have e2 := hR.f2 (hw 2 (by simp))
                            simp only [e1, e2]
                            clear e1 e2
                            go_simp
                            refine hK.out _ _ ?_
                            exact ⟨(fun jz => if jz = 110 then .slice (some ⟨b, 0, none⟩) (R) (Cb) else if jz = 111 then .int .i64 (i : Int) else if jz = 112 then .pointer (some ⟨b, i, none⟩) else v jz), rfl, ⟨(fun h => hR.st (upd_false h)), hR.s1.keep rfl, hR.w1.keepM rfl (fun h j hj => upd_on (h j hj)), (fun _ j hj => upd_on (hw j hj)), hR.w4.keepM rfl (fun h j hj => upd_on (h j hj)), hR.w7.keepM rfl (fun h j hj => upd_on (h j hj)), hR.w9.keepM rfl (fun h j hj => upd_on (h j hj)), hR.w10.keepM rfl (fun h j hj => upd_on (h j hj)), hR.w12.keepM rfl (fun h j hj => upd_on (h j hj)), hR.w13.keepM rfl (fun h j hj => upd_on (h j hj)), hR.w16.keepM rfl (fun h j hj => upd_on (h j hj)), hR.w18.keepM rfl (fun h j hj => upd_on (h j hj)), hR.w19.keepM rfl (fun h j hj => upd_on (h j hj)), hR.w21.keepM rfl (fun h j hj => upd_on (h j hj)), hR.w22.keepM rfl (fun h j hj => upd_on (h j hj)), hR.w25.keepM rfl (fun h j hj => upd_on (h j hj)), hR.w26.keepM rfl (fun h j hj => upd_on (h j hj)), hR.w27.keepM rfl (fun h j hj => upd_on (h j hj)), hR.w28.keepM rfl (fun h j hj => upd_on (h j hj)), hR.f0.keep rfl, (fun _ => rfl), (fun _ => rfl), (fun _ => rfl), hR.f4.keep rfl, hR.f5.keep rfl, hR.f6.keep rfl, hR.f7.keep rfl, hR.f8.keep rfl, hR.f9.keep rfl, hR.f10.keep rfl, hR.f11.keep rfl, hR.f12.keep rfl, hR.f13.keep rfl, hR.f14.keep rfl, hR.f15.keep rfl, hR.f16.keep rfl, hR.f17.keep rfl, hR.f18.keep rfl, hR.f19.keep rfl, hR.f20.keep rfl, hR.f21.keep rfl, hR.f22.keep rfl, hR.f23.keep rfl, hR.f24.keep rfl, hR.f25.keep rfl, hR.f26.keep rfl, hR.f27.keep rfl⟩⟩
                          refine EachOf.cons [3] rfl (by kernel_rfl) ?_ ?_
                          · rintro L A W ⟨v, rfl, hR⟩ hi hw K hK
                            have hk : L 28 = false := hR.w28.not hi rfl
                            have e3 := hR.f3 (hw 3 (by simp))
                            simp only [e3]
                            clear e3
                            have q0 := ((hR.st hk).cell (p := ⟨b, i, none⟩) LI.out.2).trans LI.out.1
                            go_simp
                            refine hK.out _ _ ?_
                            exact ⟨(fun jz => if jz = 112 then .pointer (some ⟨b, i, none⟩) else if jz = 113 then .slice (some ⟨G i, 0, none⟩) (n) (C i) else v jz), rfl, ⟨(fun h => hR.st (upd_false h)), hR.s1.keep rfl, hR.w1.keepM rfl (fun h j hj => upd_on (h j hj)), hR.w3.keepM rfl (fun h j hj => upd_on (h j hj)), (fun _ j hj => upd_on (hw j hj)), hR.w7.keepM rfl (fun h j hj => upd_on (h j hj)), hR.w9.keepM rfl (fun h j hj => upd_on (h j hj)), hR.w10.keepM rfl (fun h j hj => upd_on (h j hj)), hR.w12.keepM rfl (fun h j hj => upd_on (h j hj)), hR.w13.keepM rfl (fun h j hj => upd_on (h j hj)), hR.w16.keepM rfl (fun h j hj => upd_on (h j hj)), hR.w18.keepM rfl (fun h j hj => upd_on (h j hj)), hR.w19.keepM rfl (fun h j hj => upd_on (h j hj)), hR.w21.keepM rfl (fun h j hj => upd_on (h j hj)), hR.w22.keepM rfl (fun h j hj => upd_on (h j hj)), hR.w25.keepM rfl (fun h j hj => upd_on (h j hj)), hR.w26.keepM rfl (fun h j hj => upd_on (h j hj)), hR.w27.keepM rfl (fun h j hj => upd_on (h j hj)), hR.w28.keepM rfl (fun h j hj => upd_on (h j hj)), hR.f0.keep rfl, hR.f1.keep rfl, hR.f2.keep rfl, (fun _ => rfl), (fun _ => rfl), hR.f5.keep rfl, hR.f6.keep rfl, hR.f7.keep rfl, hR.f8.keep rfl, hR.f9.keep rfl, hR.f10.keep rfl, hR.f11.keep rfl, hR.f12.keep rfl, hR.f13.keep rfl, hR.f14.keep rfl, hR.f15.keep rfl, hR.f16.keep rfl, hR.f17.keep rfl, hR.f18.keep rfl, hR.f19.keep rfl, hR.f20.keep rfl, hR.f21.keep rfl, hR.f22.keep rfl, hR.f23.keep rfl, hR.f24.keep rfl, hR.f25.keep rfl, hR.f26.keep rfl, hR.f27.keep rfl⟩⟩
                          refine EachOf.cons [] rfl (by kernel_rfl) ?_ ?_
                          · rintro L A W ⟨v, rfl, hR⟩ hi hw K hK
                            have hk : L 28 = false := hR.w28.not hi rfl
                            go_simp
                            refine hK.out _ _ ?_
                            exact ⟨(fun jz => if jz = 114 then .int .i64 (j : Int) else v jz), rfl, ⟨(fun h => hR.st (upd_false h)), hR.s1.keep rfl, hR.w1.keepM rfl (fun h j hj => upd_on (h j hj)), hR.w3.keepM rfl (fun h j hj => upd_on (h j hj)), hR.w4.keepM rfl (fun h j hj => upd_on (h j hj)), hR.w7.keepM rfl (fun h j hj => upd_on (h j hj)), hR.w9.keepM rfl (fun h j hj => upd_on (h j hj)), hR.w10.keepM rfl (fun h j hj => upd_on (h j hj)), hR.w12.keepM rfl (fun h j hj => upd_on (h j hj)), hR.w13.keepM rfl (fun h j hj => upd_on (h j hj)), hR.w16.keepM rfl (fun h j hj => upd_on (h j hj)), hR.w18.keepM rfl (fun h j hj => upd_on (h j hj)), hR.w19.keepM rfl (fun h j hj => upd_on (h j hj)), hR.w21.keepM rfl (fun h j hj => upd_on (h j hj)), hR.w22.keepM rfl (fun h j hj => upd_on (h j hj)), hR.w25.keepM rfl (fun h j hj => upd_on (h j hj)), hR.w26.keepM rfl (fun h j hj => upd_on (h j hj)), hR.w27.keepM rfl (fun h j hj => upd_on (h j hj)), hR.w28.keepM rfl (fun h j hj => upd_on (h j hj)), hR.f0.keep rfl, hR.f1.keep rfl, hR.f2.keep rfl, hR.f3.keep rfl, hR.f4.keep rfl, (fun _ => rfl), hR.f6.keep rfl, hR.f7.keep rfl, hR.f8.keep rfl, hR.f9.keep rfl, hR.f10.keep rfl, hR.f11.keep rfl, hR.f12.keep rfl, hR.f13.keep rfl, hR.f14.keep rfl, hR.f15.keep rfl, hR.f16.keep rfl, hR.f17.keep rfl, hR.f18.keep rfl, hR.f19.keep rfl, hR.f20.keep rfl, hR.f21.keep rfl, hR.f22.keep rfl, hR.f23.keep rfl, hR.f24.keep rfl, hR.f25.keep rfl, hR.f26.keep rfl, hR.f27.keep rfl⟩⟩
                          refine EachOf.cons [] rfl (by kernel_rfl) ?_ ?_
                          · rintro L A W ⟨v, rfl, hR⟩ hi hw K hK
                            have hk : L 28 = false := hR.w28.not hi rfl
                            go_simp
                            refine hK.out _ _ ?_
                            exact ⟨(fun jz => if jz = 115 then .pointer (some ⟨fb, 0, none⟩) else v jz), rfl, ⟨(fun h => hR.st (upd_false h)), hR.s1.keep rfl, hR.w1.keepM rfl (fun h j hj => upd_on (h j hj)), hR.w3.keepM rfl (fun h j hj => upd_on (h j hj)), hR.w4.keepM rfl (fun h j hj => upd_on (h j hj)), hR.w7.keepM rfl (fun h j hj => upd_on (h j hj)), hR.w9.keepM rfl (fun h j hj => upd_on (h j hj)), hR.w10.keepM rfl (fun h j hj => upd_on (h j hj)), hR.w12.keepM rfl (fun h j hj => upd_on (h j hj)), hR.w13.keepM rfl (fun h j hj => upd_on (h j hj)), hR.w16.keepM rfl (fun h j hj => upd_on (h j hj)), hR.w18.keepM rfl (fun h j hj => upd_on (h j hj)), hR.w19.keepM rfl (fun h j hj => upd_on (h j hj)), hR.w21.keepM rfl (fun h j hj => upd_on (h j hj)), hR.w22.keepM rfl (fun h j hj => upd_on (h j hj)), hR.w25.keepM rfl (fun h j hj => upd_on (h j hj)), hR.w26.keepM rfl (fun h j hj => upd_on (h j hj)), hR.w27.keepM rfl (fun h j hj => upd_on (h j hj)), hR.w28.keepM rfl (fun h j hj => upd_on (h j hj)), hR.f0.keep rfl, hR.f1.keep rfl, hR.f2.keep rfl, hR.f3.keep rfl, hR.f4.keep rfl, hR.f5.keep rfl, (fun _ => rfl), hR.f7.keep rfl, hR.f8.keep rfl, hR.f9.keep rfl, hR.f10.keep rfl, hR.f11.keep rfl, hR.f12.keep rfl, hR.f13.keep rfl, hR.f14.keep rfl, hR.f15.keep rfl, hR.f16.keep rfl, hR.f17.keep rfl, hR.f18.keep rfl, hR.f19.keep rfl, hR.f20.keep rfl, hR.f21.keep rfl, hR.f22.keep rfl, hR.f23.keep rfl, hR.f24.keep rfl, hR.f25.keep rfl, hR.f26.keep rfl, hR.f27.keep rfl⟩⟩
                          refine EachOf.cons [6] rfl (by kernel_rfl) ?_ ?_
                          · rintro L A W ⟨v, rfl, hR⟩ hi hw K hK
                            have hk : L 28 = false := hR.w28.not hi rfl
                            have e6 := hR.f6 (hw 6 (by simp))
                            simp only [e6]
                            clear e6
                            have q0 := ((hR.st hk).cell (p := ⟨fb, 0, none⟩) LM.out.2).trans LM.out.1
                            go_simp
                            refine hK.out _ _ ?_
                            exact ⟨(fun jz => if jz = 115 then .pointer (some ⟨fb, 0, none⟩) else if jz = 116 then .slice (some ⟨b, 0, none⟩) (R) (Cb) else v jz), rfl, ⟨(fun h => hR.st (upd_false h)), hR.s1.keep rfl, hR.w1.keepM rfl (fun h j hj => upd_on (h j hj)), hR.w3.keepM rfl (fun h j hj => upd_on (h j hj)), hR.w4.keepM rfl (fun h j hj => upd_on (h j hj)), (fun _ j hj => upd_on (hw j hj)), hR.w9.keepM rfl (fun h j hj => upd_on (h j hj)), hR.w10.keepM rfl (fun h j hj => upd_on (h j hj)), hR.w12.keepM rfl (fun h j hj => upd_on (h j hj)), hR.w13.keepM rfl (fun h j hj => upd_on (h j hj)), hR.w16.keepM rfl (fun h j hj => upd_on (h j hj)), hR.w18.keepM rfl (fun h j hj => upd_on (h j hj)), hR.w19.keepM rfl (fun h j hj => upd_on (h j hj)), hR.w21.keepM rfl (fun h j hj => upd_on (h j hj)), hR.w22.keepM rfl (fun h j hj => upd_on (h j hj)), hR.w25.keepM rfl (fun h j hj => upd_on (h j hj)), hR.w26.keepM rfl (fun h j hj => upd_on (h j hj)), hR.w27.keepM rfl (fun h j hj => upd_on (h j hj)), hR.w28.keepM rfl (fun h j hj => upd_on (h j hj)), hR.f0.keep rfl, hR.f1.keep rfl, hR.f2.keep rfl, hR.f3.keep rfl, hR.f4.keep rfl, hR.f5.keep rfl, (fun _ => rfl), (fun _ => rfl), hR.f8.keep rfl, hR.f9.keep rfl, hR.f10.keep rfl, hR.f11.keep rfl, hR.f12.keep rfl, hR.f13.keep rfl, hR.f14.keep rfl, hR.f15.keep rfl, hR.f16.keep rfl, hR.f17.keep rfl, hR.f18.keep rfl, hR.f19.keep rfl, hR.f20.keep rfl, hR.f21.keep rfl, hR.f22.keep rfl, hR.f23.keep rfl, hR.f24.keep rfl, hR.f25.keep rfl, hR.f26.keep rfl, hR.f27.keep rfl⟩⟩
                          refine EachOf.cons [] rfl (by kernel_rfl) ?_ ?_
                          · rintro L A W ⟨v, rfl, hR⟩ hi hw K hK
                            have hk : L 28 = false := hR.w28.not hi rfl
                            go_simp
                            refine hK.out _ _ ?_
                            exact ⟨(fun jz => if jz = 117 then .int .i64 (i : Int) else v jz), rfl, ⟨(fun h => hR.st (upd_false h)), hR.s1.keep rfl, hR.w1.keepM rfl (fun h j hj => upd_on (h j hj)), hR.w3.keepM rfl (fun h j hj => upd_on (h j hj)), hR.w4.keepM rfl (fun h j hj => upd_on (h j hj)), hR.w7.keepM rfl (fun h j hj => upd_on (h j hj)), hR.w9.keepM rfl (fun h j hj => upd_on (h j hj)), hR.w10.keepM rfl (fun h j hj => upd_on (h j hj)), hR.w12.keepM rfl (fun h j hj => upd_on (h j hj)), hR.w13.keepM rfl (fun h j hj => upd_on (h j hj)), hR.w16.keepM rfl (fun h j hj => upd_on (h j hj)), hR.w18.keepM rfl (fun h j hj => upd_on (h j hj)), hR.w19.keepM rfl (fun h j hj => upd_on (h j hj)), hR.w21.keepM rfl (fun h j hj => upd_on (h j hj)), hR.w22.keepM rfl (fun h j hj => upd_on (h j hj)), hR.w25.keepM rfl (fun h j hj => upd_on (h j hj)), hR.w26.keepM rfl (fun h j hj => upd_on (h j hj)), hR.w27.keepM rfl (fun h j hj => upd_on (h j hj)), hR.w28.keepM rfl (fun h j hj => upd_on (h j hj)), hR.f0.keep rfl, hR.f1.keep rfl, hR.f2.keep rfl, hR.f3.keep rfl, hR.f4.keep rfl, hR.f5.keep rfl, hR.f6.keep rfl, hR.f7.keep rfl, (fun _ => rfl), hR.f9.keep rfl, hR.f10.keep rfl, hR.f11.keep rfl, hR.f12.keep rfl, hR.f13.keep rfl, hR.f14.keep rfl, hR.f15.keep rfl, hR.f16.keep rfl, hR.f17.keep rfl, hR.f18.keep rfl, hR.f19.keep rfl, hR.f20.keep rfl, hR.f21.keep rfl, hR.f22.keep rfl, hR.f23.keep rfl, hR.f24.keep rfl, hR.f25.keep rfl, hR.f26.keep rfl, hR.f27.keep rfl⟩⟩
                          refine EachOf.cons [7, 8] rfl (by kernel_rfl) ?_ ?_
                          · rintro L A W ⟨v, rfl, hR⟩ hi hw K hK
                            have hk : L 28 = false := hR.w28.not hi rfl
                            have e7 := hR.f7 (hw 7 (by simp))
                            have e8 := hR.f8 (hw 8 (by simp))
                            simp only [e7, e8]
                            clear e7 e8
                            go_simp
                            refine hK.out _ _ ?_
                            exact ⟨(fun jz => if jz = 116 then .slice (some ⟨b, 0, none⟩) (R) (Cb) else if jz = 117 then .int .i64 (i : Int) else if jz = 118 then .pointer (some ⟨b, i, none⟩) else v jz), rfl, ⟨(fun h => hR.st (upd_false h)), hR.s1.keep rfl, hR.w1.keepM rfl (fun h j hj => upd_on (h j hj)), hR.w3.keepM rfl (fun h j hj => upd_on (h j hj)), hR.w4.keepM rfl (fun h j hj => upd_on (h j hj)), hR.w7.keepM rfl (fun h j hj => upd_on (h j hj)), (fun _ j hj => upd_on (hw j hj)), hR.w10.keepM rfl (fun h j hj => upd_on (h j hj)), hR.w12.keepM rfl (fun h j hj => upd_on (h j hj)), hR.w13.keepM rfl (fun h j hj => upd_on (h j hj)), hR.w16.keepM rfl (fun h j hj => upd_on (h j hj)), hR.w18.keepM rfl (fun h j hj => upd_on (h j hj)), hR.w19.keepM rfl (fun h j hj => upd_on (h j hj)), hR.w21.keepM rfl (fun h j hj => upd_on (h j hj)), hR.w22.keepM rfl (fun h j hj => upd_on (h j hj)), hR.w25.keepM rfl (fun h j hj => upd_on (h j hj)), hR.w26.keepM rfl (fun h j hj => upd_on (h j hj)), hR.w27.keepM rfl (fun h j hj => upd_on (h j hj)), hR.w28.keepM rfl (fun h j hj => upd_on (h j hj)), hR.f0.keep rfl, hR.f1.keep rfl, hR.f2.keep rfl, hR.f3.keep rfl, hR.f4.keep rfl, hR.f5.keep rfl, hR.f6.keep rfl, (fun _ => rfl), (fun _ => rfl), (fun _ => rfl), hR.f10.keep rfl, hR.f11.keep rfl, hR.f12.keep rfl, hR.f13.keep rfl, hR.f14.keep rfl, hR.f15.keep rfl, hR.f16.keep rfl, hR.f17.keep rfl, hR.f18.keep rfl, hR.f19.keep rfl, hR.f20.keep rfl, hR.f21.keep rfl, hR.f22.keep rfl, hR.f23.keep rfl, hR.f24.keep rfl, hR.f25.keep rfl, hR.f26.keep rfl, hR.f27.keep rfl⟩⟩
                          refine EachOf.cons [9] rfl (by kernel_rfl) ?_ ?_
                          · rintro L A W ⟨v, rfl, hR⟩ hi hw K hK
                            have hk : L 28 = false := hR.w28.not hi rfl
                            have e9 := hR.f9 (hw 9 (by simp))
                            simp only [e9]
                            clear e9
                            have q0 := ((hR.st hk).cell (p := ⟨b, i, none⟩) LI.out.2).trans LI.out.1
                            go_simp
                            refine hK.out _ _ ?_
                            exact ⟨(fun jz => if jz = 118 then .pointer (some ⟨b, i, none⟩) else if jz = 119 then .slice (some ⟨G i, 0, none⟩) (n) (C i) else v jz), rfl, ⟨(fun h => hR.st (upd_false h)), hR.s1.keep rfl, hR.w1.keepM rfl (fun h j hj => upd_on (h j hj)), hR.w3.keepM rfl (fun h j hj => upd_on (h j hj)), hR.w4.keepM rfl (fun h j hj => upd_on (h j hj)), hR.w7.keepM rfl (fun h j hj => upd_on (h j hj)), hR.w9.keepM rfl (fun h j hj => upd_on (h j hj)), (fun _ j hj => upd_on (hw j hj)), hR.w12.keepM rfl (fun h j hj => upd_on (h j hj)), hR.w13.keepM rfl (fun h j hj => upd_on (h j hj)), hR.w16.keepM rfl (fun h j hj => upd_on (h j hj)), hR.w18.keepM rfl (fun h j hj => upd_on (h j hj)), hR.w19.keepM rfl (fun h j hj => upd_on (h j hj)), hR.w21.keepM rfl (fun h j hj => upd_on (h j hj)), hR.w22.keepM rfl (fun h j hj => upd_on (h j hj)), hR.w25.keepM rfl (fun h j hj => upd_on (h j hj)), hR.w26.keepM rfl (fun h j hj => upd_on (h j hj)), hR.w27.keepM rfl (fun h j hj => upd_on (h j hj)), hR.w28.keepM rfl (fun h j hj => upd_on (h j hj)), hR.f0.keep rfl, hR.f1.keep rfl, hR.f2.keep rfl, hR.f3.keep rfl, hR.f4.keep rfl, hR.f5.keep rfl, hR.f6.keep rfl, hR.f7.keep rfl, hR.f8.keep rfl, (fun _ => rfl), (fun _ => rfl), hR.f11.keep rfl, hR.f12.keep rfl, hR.f13.keep rfl, hR.f14.keep rfl, hR.f15.keep rfl, hR.f16.keep rfl, hR.f17.keep rfl, hR.f18.keep rfl, hR.f19.keep rfl, hR.f20.keep rfl, hR.f21.keep rfl, hR.f22.keep rfl, hR.f23.keep rfl, hR.f24.keep rfl, hR.f25.keep rfl, hR.f26.keep rfl, hR.f27.keep rfl⟩⟩
                          refine EachOf.cons [] rfl (by kernel_rfl) ?_ ?_
                          · rintro L A W ⟨v, rfl, hR⟩ hi hw K hK
                            have hk : L 28 = false := hR.w28.not hi rfl
                            go_simp
                            refine hK.out _ _ ?_
                            exact ⟨(fun jz => if jz = 120 then .int .i64 (j : Int) else v jz), rfl, ⟨(fun h => hR.st (upd_false h)), hR.s1.keep rfl, hR.w1.keepM rfl (fun h j hj => upd_on (h j hj)), hR.w3.keepM rfl (fun h j hj => upd_on (h j hj)), hR.w4.keepM rfl (fun h j hj => upd_on (h j hj)), hR.w7.keepM rfl (fun h j hj => upd_on (h j hj)), hR.w9.keepM rfl (fun h j hj => upd_on (h j hj)), hR.w10.keepM rfl (fun h j hj => upd_on (h j hj)), hR.w12.keepM rfl (fun h j hj => upd_on (h j hj)), hR.w13.keepM rfl (fun h j hj => upd_on (h j hj)), hR.w16.keepM rfl (fun h j hj => upd_on (h j hj)), hR.w18.keepM rfl (fun h j hj => upd_on (h j hj)), hR.w19.keepM rfl (fun h j hj => upd_on (h j hj)), hR.w21.keepM rfl (fun h j hj => upd_on (h j hj)), hR.w22.keepM rfl (fun h j hj => upd_on (h j hj)), hR.w25.keepM rfl (fun h j hj => upd_on (h j hj)), hR.w26.keepM rfl (fun h j hj => upd_on (h j hj)), hR.w27.keepM rfl (fun h j hj => upd_on (h j hj)), hR.w28.keepM rfl (fun h j hj => upd_on (h j hj)), hR.f0.keep rfl, hR.f1.keep rfl, hR.f2.keep rfl, hR.f3.keep rfl, hR.f4.keep rfl, hR.f5.keep rfl, hR.f6.keep rfl, hR.f7.keep rfl, hR.f8.keep rfl, hR.f9.keep rfl, hR.f10.keep rfl, (fun _ => rfl), hR.f12.keep rfl, hR.f13.keep rfl, hR.f14.keep rfl, hR.f15.keep rfl, hR.f16.keep rfl, hR.f17.keep rfl, hR.f18.keep rfl, hR.f19.keep rfl, hR.f20.keep rfl, hR.f21.keep rfl, hR.f22.keep rfl, hR.f23.keep rfl, hR.f24.keep rfl, hR.f25.keep rfl, hR.f26.keep rfl, hR.f27.keep rfl⟩⟩
                          refine EachOf.cons [10, 11] rfl (by kernel_rfl) ?_ ?_
                          · rintro L A W ⟨v, rfl, hR⟩ hi hw K hK
                            have hk : L 28 = false := hR.w28.not hi rfl
                            have e10 := hR.f10 (hw 10 (by simp))
                            have e11 := hR.f11 (hw 11 (by simp))
                            simp only [e10, e11]
                            clear e10 e11
                            go_simp
                            refine hK.out _ _ ?_
                            exact ⟨(fun jz => if jz = 119 then .slice (some ⟨G i, 0, none⟩) (n) (C i) else if jz = 120 then .int .i64 (j : Int) else if jz = 121 then .pointer (some ⟨G i, j, none⟩) else v jz), rfl, ⟨(fun h => hR.st (upd_false h)), hR.s1.keep rfl, hR.w1.keepM rfl (fun h j hj => upd_on (h j hj)), hR.w3.keepM rfl (fun h j hj => upd_on (h j hj)), hR.w4.keepM rfl (fun h j hj => upd_on (h j hj)), hR.w7.keepM rfl (fun h j hj => upd_on (h j hj)), hR.w9.keepM rfl (fun h j hj => upd_on (h j hj)), hR.w10.keepM rfl (fun h j hj => upd_on (h j hj)), (fun _ j hj => upd_on (hw j hj)), hR.w13.keepM rfl (fun h j hj => upd_on (h j hj)), hR.w16.keepM rfl (fun h j hj => upd_on (h j hj)), hR.w18.keepM rfl (fun h j hj => upd_on (h j hj)), hR.w19.keepM rfl (fun h j hj => upd_on (h j hj)), hR.w21.keepM rfl (fun h j hj => upd_on (h j hj)), hR.w22.keepM rfl (fun h j hj => upd_on (h j hj)), hR.w25.keepM rfl (fun h j hj => upd_on (h j hj)), hR.w26.keepM rfl (fun h j hj => upd_on (h j hj)), hR.w27.keepM rfl (fun h j hj => upd_on (h j hj)), hR.w28.keepM rfl (fun h j hj => upd_on (h j hj)), hR.f0.keep rfl, hR.f1.keep rfl, hR.f2.keep rfl, hR.f3.keep rfl, hR.f4.keep rfl, hR.f5.keep rfl, hR.f6.keep rfl, hR.f7.keep rfl, hR.f8.keep rfl, hR.f9.keep rfl, (fun _ => rfl), (fun _ => rfl), (fun _ => rfl), hR.f13.keep rfl, hR.f14.keep rfl, hR.f15.keep rfl, hR.f16.keep rfl, hR.f17.keep rfl, hR.f18.keep rfl, hR.f19.keep rfl, hR.f20.keep rfl, hR.f21.keep rfl, hR.f22.keep rfl, hR.f23.keep rfl, hR.f24.keep rfl, hR.f25.keep rfl, hR.f26.keep rfl, hR.f27.keep rfl⟩⟩
                          refine EachOf.cons [12] rfl (by kernel_rfl) ?_ ?_
                          · rintro L A W ⟨v, rfl, hR⟩ hi hw K hK
                            have hk : L 28 = false := hR.w28.not hi rfl
                            have e12 := hR.f12 (hw 12 (by simp))
                            simp only [e12]
                            clear e12
                            have q0 := ((hR.st hk).cell (p := ⟨G i, j, none⟩) LA.out.2).trans LA.out.1
                            go_simp
                            refine hK.out _ _ ?_
                            exact ⟨(fun jz => if jz = 121 then .pointer (some ⟨G i, j, none⟩) else if jz = 122 then .int .i64 va else v jz), rfl, ⟨(fun h => hR.st (upd_false h)), hR.s1.keep rfl, hR.w1.keepM rfl (fun h j hj => upd_on (h j hj)), hR.w3.keepM rfl (fun h j hj => upd_on (h j hj)), hR.w4.keepM rfl (fun h j hj => upd_on (h j hj)), hR.w7.keepM rfl (fun h j hj => upd_on (h j hj)), hR.w9.keepM rfl (fun h j hj => upd_on (h j hj)), hR.w10.keepM rfl (fun h j hj => upd_on (h j hj)), hR.w12.keepM rfl (fun h j hj => upd_on (h j hj)), (fun _ j hj => upd_on (hw j hj)), hR.w16.keepM rfl (fun h j hj => upd_on (h j hj)), hR.w18.keepM rfl (fun h j hj => upd_on (h j hj)), hR.w19.keepM rfl (fun h j hj => upd_on (h j hj)), hR.w21.keepM rfl (fun h j hj => upd_on (h j hj)), hR.w22.keepM rfl (fun h j hj => upd_on (h j hj)), hR.w25.keepM rfl (fun h j hj => upd_on (h j hj)), hR.w26.keepM rfl (fun h j hj => upd_on (h j hj)), hR.w27.keepM rfl (fun h j hj => upd_on (h j hj)), hR.w28.keepM rfl (fun h j hj => upd_on (h j hj)), hR.f0.keep rfl, hR.f1.keep rfl, hR.f2.keep rfl, hR.f3.keep rfl, hR.f4.keep rfl, hR.f5.keep rfl, hR.f6.keep rfl, hR.f7.keep rfl, hR.f8.keep rfl, hR.f9.keep rfl, hR.f10.keep rfl, hR.f11.keep rfl, (fun _ => rfl), (fun _ => rfl), hR.f14.keep rfl, hR.f15.keep rfl, hR.f16.keep rfl, hR.f17.keep rfl, hR.f18.keep rfl, hR.f19.keep rfl, hR.f20.keep rfl, hR.f21.keep rfl, hR.f22.keep rfl, hR.f23.keep rfl, hR.f24.keep rfl, hR.f25.keep rfl, hR.f26.keep rfl, hR.f27.keep rfl⟩⟩
                          refine EachOf.cons [] rfl (by kernel_rfl) ?_ ?_
                          · rintro L A W ⟨v, rfl, hR⟩ hi hw K hK
                            have hk : L 28 = false := hR.w28.not hi rfl
                            go_simp
                            refine hK.out _ _ ?_
                            exact ⟨(fun jz => if jz = 123 then .int .i64 vb else v jz), rfl, ⟨(fun h => hR.st (upd_false h)), hR.s1.keep rfl, hR.w1.keepM rfl (fun h j hj => upd_on (h j hj)), hR.w3.keepM rfl (fun h j hj => upd_on (h j hj)), hR.w4.keepM rfl (fun h j hj => upd_on (h j hj)), hR.w7.keepM rfl (fun h j hj => upd_on (h j hj)), hR.w9.keepM rfl (fun h j hj => upd_on (h j hj)), hR.w10.keepM rfl (fun h j hj => upd_on (h j hj)), hR.w12.keepM rfl (fun h j hj => upd_on (h j hj)), hR.w13.keepM rfl (fun h j hj => upd_on (h j hj)), hR.w16.keepM rfl (fun h j hj => upd_on (h j hj)), hR.w18.keepM rfl (fun h j hj => upd_on (h j hj)), hR.w19.keepM rfl (fun h j hj => upd_on (h j hj)), hR.w21.keepM rfl (fun h j hj => upd_on (h j hj)), hR.w22.keepM rfl (fun h j hj => upd_on (h j hj)), hR.w25.keepM rfl (fun h j hj => upd_on (h j hj)), hR.w26.keepM rfl (fun h j hj => upd_on (h j hj)), hR.w27.keepM rfl (fun h j hj => upd_on (h j hj)), hR.w28.keepM rfl (fun h j hj => upd_on (h j hj)), hR.f0.keep rfl, hR.f1.keep rfl, hR.f2.keep rfl, hR.f3.keep rfl, hR.f4.keep rfl, hR.f5.keep rfl, hR.f6.keep rfl, hR.f7.keep rfl, hR.f8.keep rfl, hR.f9.keep rfl, hR.f10.keep rfl, hR.f11.keep rfl, hR.f12.keep rfl, hR.f13.keep rfl, (fun _ => rfl), hR.f15.keep rfl, hR.f16.keep rfl, hR.f17.keep rfl, hR.f18.keep rfl, hR.f19.keep rfl, hR.f20.keep rfl, hR.f21.keep rfl, hR.f22.keep rfl, hR.f23.keep rfl, hR.f24.keep rfl, hR.f25.keep rfl, hR.f26.keep rfl, hR.f27.keep rfl⟩⟩
                          refine EachOf.cons [] rfl (by kernel_rfl) ?_ ?_
                          · rintro L A W ⟨v, rfl, hR⟩ hi hw K hK
                            have hk : L 28 = false := hR.w28.not hi rfl
                            go_simp
                            refine hK.out _ _ ?_
                            exact ⟨(fun jz => if jz = 124 then .pointer (some ⟨fb, 0, none⟩) else v jz), rfl, ⟨(fun h => hR.st (upd_false h)), hR.s1.keep rfl, hR.w1.keepM rfl (fun h j hj => upd_on (h j hj)), hR.w3.keepM rfl (fun h j hj => upd_on (h j hj)), hR.w4.keepM rfl (fun h j hj => upd_on (h j hj)), hR.w7.keepM rfl (fun h j hj => upd_on (h j hj)), hR.w9.keepM rfl (fun h j hj => upd_on (h j hj)), hR.w10.keepM rfl (fun h j hj => upd_on (h j hj)), hR.w12.keepM rfl (fun h j hj => upd_on (h j hj)), hR.w13.keepM rfl (fun h j hj => upd_on (h j hj)), hR.w16.keepM rfl (fun h j hj => upd_on (h j hj)), hR.w18.keepM rfl (fun h j hj => upd_on (h j hj)), hR.w19.keepM rfl (fun h j hj => upd_on (h j hj)), hR.w21.keepM rfl (fun h j hj => upd_on (h j hj)), hR.w22.keepM rfl (fun h j hj => upd_on (h j hj)), hR.w25.keepM rfl (fun h j hj => upd_on (h j hj)), hR.w26.keepM rfl (fun h j hj => upd_on (h j hj)), hR.w27.keepM rfl (fun h j hj => upd_on (h j hj)), hR.w28.keepM rfl (fun h j hj => upd_on (h j hj)), hR.f0.keep rfl, hR.f1.keep rfl, hR.f2.keep rfl, hR.f3.keep rfl, hR.f4.keep rfl, hR.f5.keep rfl, hR.f6.keep rfl, hR.f7.keep rfl, hR.f8.keep rfl, hR.f9.keep rfl, hR.f10.keep rfl, hR.f11.keep rfl, hR.f12.keep rfl, hR.f13.keep rfl, hR.f14.keep rfl, (fun _ => rfl), hR.f16.keep rfl, hR.f17.keep rfl, hR.f18.keep rfl, hR.f19.keep rfl, hR.f20.keep rfl, hR.f21.keep rfl, hR.f22.keep rfl, hR.f23.keep rfl, hR.f24.keep rfl, hR.f25.keep rfl, hR.f26.keep rfl, hR.f27.keep rfl⟩⟩
                          refine EachOf.cons [15] rfl (by kernel_rfl) ?_ ?_
                          · rintro L A W ⟨v, rfl, hR⟩ hi hw K hK
                            have hk : L 28 = false := hR.w28.not hi rfl
                            have e15 := hR.f15 (hw 15 (by simp))
                            simp only [e15]
                            clear e15
                            have q0 := ((hR.st hk).cell (p := ⟨fb, 0, none⟩) LM.out.2).trans LM.out.1
                            go_simp
                            refine hK.out _ _ ?_
                            exact ⟨(fun jz => if jz = 124 then .pointer (some ⟨fb, 0, none⟩) else if jz = 125 then .slice (some ⟨b, 0, none⟩) (R) (Cb) else v jz), rfl, ⟨(fun h => hR.st (upd_false h)), hR.s1.keep rfl, hR.w1.keepM rfl (fun h j hj => upd_on (h j hj)), hR.w3.keepM rfl (fun h j hj => upd_on (h j hj)), hR.w4.keepM rfl (fun h j hj => upd_on (h j hj)), hR.w7.keepM rfl (fun h j hj => upd_on (h j hj)), hR.w9.keepM rfl (fun h j hj => upd_on (h j hj)), hR.w10.keepM rfl (fun h j hj => upd_on (h j hj)), hR.w12.keepM rfl (fun h j hj => upd_on (h j hj)), hR.w13.keepM rfl (fun h j hj => upd_on (h j hj)), (fun _ j hj => upd_on (hw j hj)), hR.w18.keepM rfl (fun h j hj => upd_on (h j hj)), hR.w19.keepM rfl (fun h j hj => upd_on (h j hj)), hR.w21.keepM rfl (fun h j hj => upd_on (h j hj)), hR.w22.keepM rfl (fun h j hj => upd_on (h j hj)), hR.w25.keepM rfl (fun h j hj => upd_on (h j hj)), hR.w26.keepM rfl (fun h j hj => upd_on (h j hj)), hR.w27.keepM rfl (fun h j hj => upd_on (h j hj)), hR.w28.keepM rfl (fun h j hj => upd_on (h j hj)), hR.f0.keep rfl, hR.f1.keep rfl, hR.f2.keep rfl, hR.f3.keep rfl, hR.f4.keep rfl, hR.f5.keep rfl, hR.f6.keep rfl, hR.f7.keep rfl, hR.f8.keep rfl, hR.f9.keep rfl, hR.f10.keep rfl, hR.f11.keep rfl, hR.f12.keep rfl, hR.f13.keep rfl, hR.f14.keep rfl, (fun _ => rfl), (fun _ => rfl), hR.f17.keep rfl, hR.f18.keep rfl, hR.f19.keep rfl, hR.f20.keep rfl, hR.f21.keep rfl, hR.f22.keep rfl, hR.f23.keep rfl, hR.f24.keep rfl, hR.f25.keep rfl, hR.f26.keep rfl, hR.f27.keep rfl⟩⟩
                          refine EachOf.cons [] rfl (by kernel_rfl) ?_ ?_
                          · rintro L A W ⟨v, rfl, hR⟩ hi hw K hK
                            have hk : L 28 = false := hR.w28.not hi rfl
                            go_simp
                            refine hK.out _ _ ?_
                            exact ⟨(fun jz => if jz = 126 then .int .i64 (k : Int) else v jz), rfl, ⟨(fun h => hR.st (upd_false h)), hR.s1.keep rfl, hR.w1.keepM rfl (fun h j hj => upd_on (h j hj)), hR.w3.keepM rfl (fun h j hj => upd_on (h j hj)), hR.w4.keepM rfl (fun h j hj => upd_on (h j hj)), hR.w7.keepM rfl (fun h j hj => upd_on (h j hj)), hR.w9.keepM rfl (fun h j hj => upd_on (h j hj)), hR.w10.keepM rfl (fun h j hj => upd_on (h j hj)), hR.w12.keepM rfl (fun h j hj => upd_on (h j hj)), hR.w13.keepM rfl (fun h j hj => upd_on (h j hj)), hR.w16.keepM rfl (fun h j hj => upd_on (h j hj)), hR.w18.keepM rfl (fun h j hj => upd_on (h j hj)), hR.w19.keepM rfl (fun h j hj => upd_on (h j hj)), hR.w21.keepM rfl (fun h j hj => upd_on (h j hj)), hR.w22.keepM rfl (fun h j hj => upd_on (h j hj)), hR.w25.keepM rfl (fun h j hj => upd_on (h j hj)), hR.w26.keepM rfl (fun h j hj => upd_on (h j hj)), hR.w27.keepM rfl (fun h j hj => upd_on (h j hj)), hR.w28.keepM rfl (fun h j hj => upd_on (h j hj)), hR.f0.keep rfl, hR.f1.keep rfl, hR.f2.keep rfl, hR.f3.keep rfl, hR.f4.keep rfl, hR.f5.keep rfl, hR.f6.keep rfl, hR.f7.keep rfl, hR.f8.keep rfl, hR.f9.keep rfl, hR.f10.keep rfl, hR.f11.keep rfl, hR.f12.keep rfl, hR.f13.keep rfl, hR.f14.keep rfl, hR.f15.keep rfl, hR.f16.keep rfl, (fun _ => rfl), hR.f18.keep rfl, hR.f19.keep rfl, hR.f20.keep rfl, hR.f21.keep rfl, hR.f22.keep rfl, hR.f23.keep rfl, hR.f24.keep rfl, hR.f25.keep rfl, hR.f26.keep rfl, hR.f27.keep rfl⟩⟩
                          refine EachOf.cons [16, 17] rfl (by kernel_rfl) ?_ ?_
                          · rintro L A W ⟨v, rfl, hR⟩ hi hw K hK
                            have hk : L 28 = false := hR.w28.not hi rfl
                            have e16 := hR.f16 (hw 16 (by simp))
                            have e17 := hR.f17 (hw 17 (by simp))
                            simp only [e16, e17]
                            clear e16 e17
                            go_simp
                            refine hK.out _ _ ?_
                            exact ⟨(fun jz => if jz = 125 then .slice (some ⟨b, 0, none⟩) (R) (Cb) else if jz = 126 then .int .i64 (k : Int) else if jz = 127 then .pointer (some ⟨b, k, none⟩) else v jz), rfl, ⟨(fun h => hR.st (upd_false h)), hR.s1.keep rfl, hR.w1.keepM rfl (fun h j hj => upd_on (h j hj)), hR.w3.keepM rfl (fun h j hj => upd_on (h j hj)), hR.w4.keepM rfl (fun h j hj => upd_on (h j hj)), hR.w7.keepM rfl (fun h j hj => upd_on (h j hj)), hR.w9.keepM rfl (fun h j hj => upd_on (h j hj)), hR.w10.keepM rfl (fun h j hj => upd_on (h j hj)), hR.w12.keepM rfl (fun h j hj => upd_on (h j hj)), hR.w13.keepM rfl (fun h j hj => upd_on (h j hj)), hR.w16.keepM rfl (fun h j hj => upd_on (h j hj)), (fun _ j hj => upd_on (hw j hj)), hR.w19.keepM rfl (fun h j hj => upd_on (h j hj)), hR.w21.keepM rfl (fun h j hj => upd_on (h j hj)), hR.w22.keepM rfl (fun h j hj => upd_on (h j hj)), hR.w25.keepM rfl (fun h j hj => upd_on (h j hj)), hR.w26.keepM rfl (fun h j hj => upd_on (h j hj)), hR.w27.keepM rfl (fun h j hj => upd_on (h j hj)), hR.w28.keepM rfl (fun h j hj => upd_on (h j hj)), hR.f0.keep rfl, hR.f1.keep rfl, hR.f2.keep rfl, hR.f3.keep rfl, hR.f4.keep rfl, hR.f5.keep rfl, hR.f6.keep rfl, hR.f7.keep rfl, hR.f8.keep rfl, hR.f9.keep rfl, hR.f10.keep rfl, hR.f11.keep rfl, hR.f12.keep rfl, hR.f13.keep rfl, hR.f14.keep rfl, hR.f15.keep rfl, (fun _ => rfl), (fun _ => rfl), (fun _ => rfl), hR.f19.keep rfl, hR.f20.keep rfl, hR.f21.keep rfl, hR.f22.keep rfl, hR.f23.keep rfl, hR.f24.keep rfl, hR.f25.keep rfl, hR.f26.keep rfl, hR.f27.keep rfl⟩⟩
                          refine EachOf.cons [18] rfl (by kernel_rfl) ?_ ?_
                          · rintro L A W ⟨v, rfl, hR⟩ hi hw K hK
                            have hk : L 28 = false := hR.w28.not hi rfl
                            have e18 := hR.f18 (hw 18 (by simp))
                            simp only [e18]
                            clear e18
                            have q0 := ((hR.st hk).cell (p := ⟨b, k, none⟩) LK.out.2).trans LK.out.1
                            go_simp
                            refine hK.out _ _ ?_
                            exact ⟨(fun jz => if jz = 127 then .pointer (some ⟨b, k, none⟩) else if jz = 128 then .slice (some ⟨G k, 0, none⟩) (n) (C k) else v jz), rfl, ⟨(fun h => hR.st (upd_false h)), hR.s1.keep rfl, hR.w1.keepM rfl (fun h j hj => upd_on (h j hj)), hR.w3.keepM rfl (fun h j hj => upd_on (h j hj)), hR.w4.keepM rfl (fun h j hj => upd_on (h j hj)), hR.w7.keepM rfl (fun h j hj => upd_on (h j hj)), hR.w9.keepM rfl (fun h j hj => upd_on (h j hj)), hR.w10.keepM rfl (fun h j hj => upd_on (h j hj)), hR.w12.keepM rfl (fun h j hj => upd_on (h j hj)), hR.w13.keepM rfl (fun h j hj => upd_on (h j hj)), hR.w16.keepM rfl (fun h j hj => upd_on (h j hj)), hR.w18.keepM rfl (fun h j hj => upd_on (h j hj)), (fun _ j hj => upd_on (hw j hj)), hR.w21.keepM rfl (fun h j hj => upd_on (h j hj)), hR.w22.keepM rfl (fun h j hj => upd_on (h j hj)), hR.w25.keepM rfl (fun h j hj => upd_on (h j hj)), hR.w26.keepM rfl (fun h j hj => upd_on (h j hj)), hR.w27.keepM rfl (fun h j hj => upd_on (h j hj)), hR.w28.keepM rfl (fun h j hj => upd_on (h j hj)), hR.f0.keep rfl, hR.f1.keep rfl, hR.f2.keep rfl, hR.f3.keep rfl, hR.f4.keep rfl, hR.f5.keep rfl, hR.f6.keep rfl, hR.f7.keep rfl, hR.f8.keep rfl, hR.f9.keep rfl, hR.f10.keep rfl, hR.f11.keep rfl, hR.f12.keep rfl, hR.f13.keep rfl, hR.f14.keep rfl, hR.f15.keep rfl, hR.f16.keep rfl, hR.f17.keep rfl, (fun _ => rfl), (fun _ => rfl), hR.f20.keep rfl, hR.f21.keep rfl, hR.f22.keep rfl, hR.f23.keep rfl, hR.f24.keep rfl, hR.f25.keep rfl, hR.f26.keep rfl, hR.f27.keep rfl⟩⟩
                          refine EachOf.cons [] rfl (by kernel_rfl) ?_ ?_
                          · rintro L A W ⟨v, rfl, hR⟩ hi hw K hK
                            have hk : L 28 = false := hR.w28.not hi rfl
                            go_simp
                            refine hK.out _ _ ?_
                            exact ⟨(fun jz => if jz = 129 then .int .i64 (j : Int) else v jz), rfl, ⟨(fun h => hR.st (upd_false h)), hR.s1.keep rfl, hR.w1.keepM rfl (fun h j hj => upd_on (h j hj)), hR.w3.keepM rfl (fun h j hj => upd_on (h j hj)), hR.w4.keepM rfl (fun h j hj => upd_on (h j hj)), hR.w7.keepM rfl (fun h j hj => upd_on (h j hj)), hR.w9.keepM rfl (fun h j hj => upd_on (h j hj)), hR.w10.keepM rfl (fun h j hj => upd_on (h j hj)), hR.w12.keepM rfl (fun h j hj => upd_on (h j hj)), hR.w13.keepM rfl (fun h j hj => upd_on (h j hj)), hR.w16.keepM rfl (fun h j hj => upd_on (h j hj)), hR.w18.keepM rfl (fun h j hj => upd_on (h j hj)), hR.w19.keepM rfl (fun h j hj => upd_on (h j hj)), hR.w21.keepM rfl (fun h j hj => upd_on (h j hj)), hR.w22.keepM rfl (fun h j hj => upd_on (h j hj)), hR.w25.keepM rfl (fun h j hj => upd_on (h j hj)), hR.w26.keepM rfl (fun h j hj => upd_on (h j hj)), hR.w27.keepM rfl (fun h j hj => upd_on (h j hj)), hR.w28.keepM rfl (fun h j hj => upd_on (h j hj)), hR.f0.keep rfl, hR.f1.keep rfl, hR.f2.keep rfl, hR.f3.keep rfl, hR.f4.keep rfl, hR.f5.keep rfl, hR.f6.keep rfl, hR.f7.keep rfl, hR.f8.keep rfl, hR.f9.keep rfl, hR.f10.keep rfl, hR.f11.keep rfl, hR.f12.keep rfl, hR.f13.keep rfl, hR.f14.keep rfl, hR.f15.keep rfl, hR.f16.keep rfl, hR.f17.keep rfl, hR.f18.keep rfl, hR.f19.keep rfl, (fun _ => rfl), hR.f21.keep rfl, hR.f22.keep rfl, hR.f23.keep rfl, hR.f24.keep rfl, hR.f25.keep rfl, hR.f26.keep rfl, hR.f27.keep rfl⟩⟩
                          refine EachOf.cons [19, 20] rfl (by kernel_rfl) ?_ ?_
                          · rintro L A W ⟨v, rfl, hR⟩ hi hw K hK
                            have hk : L 28 = false := hR.w28.not hi rfl
                            have e19 := hR.f19 (hw 19 (by simp))
                            have e20 := hR.f20 (hw 20 (by simp))
                            simp only [e19, e20]
                            clear e19 e20
                            go_simp
                            refine hK.out _ _ ?_
                            exact ⟨(fun jz => if jz = 128 then .slice (some ⟨G k, 0, none⟩) (n) (C k) else if jz = 129 then .int .i64 (j : Int) else if jz = 130 then .pointer (some ⟨G k, j, none⟩) else v jz), rfl, ⟨(fun h => hR.st (upd_false h)), hR.s1.keep rfl, hR.w1.keepM rfl (fun h j hj => upd_on (h j hj)), hR.w3.keepM rfl (fun h j hj => upd_on (h j hj)), hR.w4.keepM rfl (fun h j hj => upd_on (h j hj)), hR.w7.keepM rfl (fun h j hj => upd_on (h j hj)), hR.w9.keepM rfl (fun h j hj => upd_on (h j hj)), hR.w10.keepM rfl (fun h j hj => upd_on (h j hj)), hR.w12.keepM rfl (fun h j hj => upd_on (h j hj)), hR.w13.keepM rfl (fun h j hj => upd_on (h j hj)), hR.w16.keepM rfl (fun h j hj => upd_on (h j hj)), hR.w18.keepM rfl (fun h j hj => upd_on (h j hj)), hR.w19.keepM rfl (fun h j hj => upd_on (h j hj)), (fun _ j hj => upd_on (hw j hj)), hR.w22.keepM rfl (fun h j hj => upd_on (h j hj)), hR.w25.keepM rfl (fun h j hj => upd_on (h j hj)), hR.w26.keepM rfl (fun h j hj => upd_on (h j hj)), hR.w27.keepM rfl (fun h j hj => upd_on (h j hj)), hR.w28.keepM rfl (fun h j hj => upd_on (h j hj)), hR.f0.keep rfl, hR.f1.keep rfl, hR.f2.keep rfl, hR.f3.keep rfl, hR.f4.keep rfl, hR.f5.keep rfl, hR.f6.keep rfl, hR.f7.keep rfl, hR.f8.keep rfl, hR.f9.keep rfl, hR.f10.keep rfl, hR.f11.keep rfl, hR.f12.keep rfl, hR.f13.keep rfl, hR.f14.keep rfl, hR.f15.keep rfl, hR.f16.keep rfl, hR.f17.keep rfl, hR.f18.keep rfl, (fun _ => rfl), (fun _ => rfl), (fun _ => rfl), hR.f22.keep rfl, hR.f23.keep rfl, hR.f24.keep rfl, hR.f25.keep rfl, hR.f26.keep rfl, hR.f27.keep rfl⟩⟩
                          refine EachOf.cons [21] rfl (by kernel_rfl) ?_ ?_
                          · rintro L A W ⟨v, rfl, hR⟩ hi hw K hK
                            have hk : L 28 = false := hR.w28.not hi rfl
                            have e21 := hR.f21 (hw 21 (by simp))
                            simp only [e21]
                            clear e21
                            have q0 := ((hR.st hk).cell (p := ⟨G k, j, none⟩) LC.out.2).trans LC.out.1
                            go_simp
                            refine hK.out _ _ ?_
                            exact ⟨(fun jz => if jz = 130 then .pointer (some ⟨G k, j, none⟩) else if jz = 131 then .int .i64 vc else v jz), rfl, ⟨(fun h => hR.st (upd_false h)), hR.s1.keep rfl, hR.w1.keepM rfl (fun h j hj => upd_on (h j hj)), hR.w3.keepM rfl (fun h j hj => upd_on (h j hj)), hR.w4.keepM rfl (fun h j hj => upd_on (h j hj)), hR.w7.keepM rfl (fun h j hj => upd_on (h j hj)), hR.w9.keepM rfl (fun h j hj => upd_on (h j hj)), hR.w10.keepM rfl (fun h j hj => upd_on (h j hj)), hR.w12.keepM rfl (fun h j hj => upd_on (h j hj)), hR.w13.keepM rfl (fun h j hj => upd_on (h j hj)), hR.w16.keepM rfl (fun h j hj => upd_on (h j hj)), hR.w18.keepM rfl (fun h j hj => upd_on (h j hj)), hR.w19.keepM rfl (fun h j hj => upd_on (h j hj)), hR.w21.keepM rfl (fun h j hj => upd_on (h j hj)), (fun _ j hj => upd_on (hw j hj)), hR.w25.keepM rfl (fun h j hj => upd_on (h j hj)), hR.w26.keepM rfl (fun h j hj => upd_on (h j hj)), hR.w27.keepM rfl (fun h j hj => upd_on (h j hj)), hR.w28.keepM rfl (fun h j hj => upd_on (h j hj)), hR.f0.keep rfl, hR.f1.keep rfl, hR.f2.keep rfl, hR.f3.keep rfl, hR.f4.keep rfl, hR.f5.keep rfl, hR.f6.keep rfl, hR.f7.keep rfl, hR.f8.keep rfl, hR.f9.keep rfl, hR.f10.keep rfl, hR.f11.keep rfl, hR.f12.keep rfl, hR.f13.keep rfl, hR.f14.keep rfl, hR.f15.keep rfl, hR.f16.keep rfl, hR.f17.keep rfl, hR.f18.keep rfl, hR.f19.keep rfl, hR.f20.keep rfl, (fun _ => rfl), (fun _ => rfl), hR.f23.keep rfl, hR.f24.keep rfl, hR.f25.keep rfl, hR.f26.keep rfl, hR.f27.keep rfl⟩⟩
                          refine EachOf.cons [] rfl (by kernel_rfl) ?_ ?_
                          · rintro L A W ⟨v, rfl, hR⟩ hi hw K hK
                            have hk : L 28 = false := hR.w28.not hi rfl
                            go_simp
                            refine hK.out _ _ ?_
                            exact ⟨(fun jz => if jz = 132 then .int .i64 vd else v jz), rfl, ⟨(fun h => hR.st (upd_false h)), hR.s1.keep rfl, hR.w1.keepM rfl (fun h j hj => upd_on (h j hj)), hR.w3.keepM rfl (fun h j hj => upd_on (h j hj)), hR.w4.keepM rfl (fun h j hj => upd_on (h j hj)), hR.w7.keepM rfl (fun h j hj => upd_on (h j hj)), hR.w9.keepM rfl (fun h j hj => upd_on (h j hj)), hR.w10.keepM rfl (fun h j hj => upd_on (h j hj)), hR.w12.keepM rfl (fun h j hj => upd_on (h j hj)), hR.w13.keepM rfl (fun h j hj => upd_on (h j hj)), hR.w16.keepM rfl (fun h j hj => upd_on (h j hj)), hR.w18.keepM rfl (fun h j hj => upd_on (h j hj)), hR.w19.keepM rfl (fun h j hj => upd_on (h j hj)), hR.w21.keepM rfl (fun h j hj => upd_on (h j hj)), hR.w22.keepM rfl (fun h j hj => upd_on (h j hj)), hR.w25.keepM rfl (fun h j hj => upd_on (h j hj)), hR.w26.keepM rfl (fun h j hj => upd_on (h j hj)), hR.w27.keepM rfl (fun h j hj => upd_on (h j hj)), hR.w28.keepM rfl (fun h j hj => upd_on (h j hj)), hR.f0.keep rfl, hR.f1.keep rfl, hR.f2.keep rfl, hR.f3.keep rfl, hR.f4.keep rfl, hR.f5.keep rfl, hR.f6.keep rfl, hR.f7.keep rfl, hR.f8.keep rfl, hR.f9.keep rfl, hR.f10.keep rfl, hR.f11.keep rfl, hR.f12.keep rfl, hR.f13.keep rfl, hR.f14.keep rfl, hR.f15.keep rfl, hR.f16.keep rfl, hR.f17.keep rfl, hR.f18.keep rfl, hR.f19.keep rfl, hR.f20.keep rfl, hR.f21.keep rfl, hR.f22.keep rfl, (fun _ => rfl), hR.f24.keep rfl, hR.f25.keep rfl, hR.f26.keep rfl, hR.f27.keep rfl⟩⟩
                          refine EachOf.cons [] rfl (by kernel_rfl) ?_ ?_
                          · rintro L A W ⟨v, rfl, hR⟩ hi hw K hK
                            have hk : L 28 = false := hR.w28.not hi rfl
                            go_simp
                            refine hK.out _ _ ?_
                            exact ⟨(fun jz => if jz = 133 then .pointer (some ⟨fb, 2, none⟩) else v jz), rfl, ⟨(fun h => hR.st (upd_false h)), hR.s1.keep rfl, hR.w1.keepM rfl (fun h j hj => upd_on (h j hj)), hR.w3.keepM rfl (fun h j hj => upd_on (h j hj)), hR.w4.keepM rfl (fun h j hj => upd_on (h j hj)), hR.w7.keepM rfl (fun h j hj => upd_on (h j hj)), hR.w9.keepM rfl (fun h j hj => upd_on (h j hj)), hR.w10.keepM rfl (fun h j hj => upd_on (h j hj)), hR.w12.keepM rfl (fun h j hj => upd_on (h j hj)), hR.w13.keepM rfl (fun h j hj => upd_on (h j hj)), hR.w16.keepM rfl (fun h j hj => upd_on (h j hj)), hR.w18.keepM rfl (fun h j hj => upd_on (h j hj)), hR.w19.keepM rfl (fun h j hj => upd_on (h j hj)), hR.w21.keepM rfl (fun h j hj => upd_on (h j hj)), hR.w22.keepM rfl (fun h j hj => upd_on (h j hj)), hR.w25.keepM rfl (fun h j hj => upd_on (h j hj)), hR.w26.keepM rfl (fun h j hj => upd_on (h j hj)), hR.w27.keepM rfl (fun h j hj => upd_on (h j hj)), hR.w28.keepM rfl (fun h j hj => upd_on (h j hj)), hR.f0.keep rfl, hR.f1.keep rfl, hR.f2.keep rfl, hR.f3.keep rfl, hR.f4.keep rfl, hR.f5.keep rfl, hR.f6.keep rfl, hR.f7.keep rfl, hR.f8.keep rfl, hR.f9.keep rfl, hR.f10.keep rfl, hR.f11.keep rfl, hR.f12.keep rfl, hR.f13.keep rfl, hR.f14.keep rfl, hR.f15.keep rfl, hR.f16.keep rfl, hR.f17.keep rfl, hR.f18.keep rfl, hR.f19.keep rfl, hR.f20.keep rfl, hR.f21.keep rfl, hR.f22.keep rfl, hR.f23.keep rfl, (fun _ => rfl), hR.f25.keep rfl, hR.f26.keep rfl, hR.f27.keep rfl⟩⟩
                          refine EachOf.cons [24] rfl (by kernel_rfl) ?_ ?_
                          · rintro L A W ⟨v, rfl, hR⟩ hi hw K hK
                            have hk : L 28 = false := hR.w28.not hi rfl
                            have e24 := hR.f24 (hw 24 (by simp))
                            simp only [e24]
                            clear e24
                            have q0 := ((hR.st hk).cell (p := ⟨fb, 2, none⟩) LL.out.2).trans LL.out.1
                            go_simp
                            refine hK.out _ _ ?_
                            exact ⟨(fun jz => if jz = 133 then .pointer (some ⟨fb, 2, none⟩) else if jz = 134 then .int .i64 D else v jz), rfl, ⟨(fun h => hR.st (upd_false h)), hR.s1.keep rfl, hR.w1.keepM rfl (fun h j hj => upd_on (h j hj)), hR.w3.keepM rfl (fun h j hj => upd_on (h j hj)), hR.w4.keepM rfl (fun h j hj => upd_on (h j hj)), hR.w7.keepM rfl (fun h j hj => upd_on (h j hj)), hR.w9.keepM rfl (fun h j hj => upd_on (h j hj)), hR.w10.keepM rfl (fun h j hj => upd_on (h j hj)), hR.w12.keepM rfl (fun h j hj => upd_on (h j hj)), hR.w13.keepM rfl (fun h j hj => upd_on (h j hj)), hR.w16.keepM rfl (fun h j hj => upd_on (h j hj)), hR.w18.keepM rfl (fun h j hj => upd_on (h j hj)), hR.w19.keepM rfl (fun h j hj => upd_on (h j hj)), hR.w21.keepM rfl (fun h j hj => upd_on (h j hj)), hR.w22.keepM rfl (fun h j hj => upd_on (h j hj)), (fun _ j hj => upd_on (hw j hj)), hR.w26.keepM rfl (fun h j hj => upd_on (h j hj)), hR.w27.keepM rfl (fun h j hj => upd_on (h j hj)), hR.w28.keepM rfl (fun h j hj => upd_on (h j hj)), hR.f0.keep rfl, hR.f1.keep rfl, hR.f2.keep rfl, hR.f3.keep rfl, hR.f4.keep rfl, hR.f5.keep rfl, hR.f6.keep rfl, hR.f7.keep rfl, hR.f8.keep rfl, hR.f9.keep rfl, hR.f10.keep rfl, hR.f11.keep rfl, hR.f12.keep rfl, hR.f13.keep rfl, hR.f14.keep rfl, hR.f15.keep rfl, hR.f16.keep rfl, hR.f17.keep rfl, hR.f18.keep rfl, hR.f19.keep rfl, hR.f20.keep rfl, hR.f21.keep rfl, hR.f22.keep rfl, hR.f23.keep rfl, (fun _ => rfl), (fun _ => rfl), hR.f26.keep rfl, hR.f27.keep rfl⟩⟩
                          refine EachOf.cons [13, 14, 22, 23, 25] rfl (by kernel_rfl) ?_ ?_
                          · rintro L A W ⟨v, rfl, hR⟩ hi hw K hK
                            have hk : L 28 = false := hR.w28.not hi rfl
                            have e13 := hR.f13 (hw 13 (by simp))
                            have e14 := hR.f14 (hw 14 (by simp))
                            have e22 := hR.f22 (hw 22 (by simp))
                            have e23 := hR.f23 (hw 23 (by simp))
                            have e25 := hR.f25 (hw 25 (by simp))
                            simp only [e13, e14, e22, e23, e25]
                            clear e13 e14 e22 e23 e25
                            go_simp
                            go_at_call 73
                            (with_reducible refine ((CR _).out).mono ?_)
                            rintro e w2 ⟨rfl, hb⟩
                            go_simp
                            refine hK.out _ _ ?_
                            exact ⟨(fun jz => if jz = 122 then .int .i64 va else if jz = 123 then .int .i64 vb else if jz = 131 then .int .i64 vc else if jz = 132 then .int .i64 vd else if jz = 134 then .int .i64 D else if jz = 135 then .int .i64 r else v jz), rfl, ⟨(fun _ => below_on (hR.st hk) hb), (fun h => absurd (upd_back h rfl) (by simp [hk])), hR.w1.keepM rfl (fun h j hj => upd_on (h j hj)), hR.w3.keepM rfl (fun h j hj => upd_on (h j hj)), hR.w4.keepM rfl (fun h j hj => upd_on (h j hj)), hR.w7.keepM rfl (fun h j hj => upd_on (h j hj)), hR.w9.keepM rfl (fun h j hj => upd_on (h j hj)), hR.w10.keepM rfl (fun h j hj => upd_on (h j hj)), hR.w12.keepM rfl (fun h j hj => upd_on (h j hj)), hR.w13.keepM rfl (fun h j hj => upd_on (h j hj)), hR.w16.keepM rfl (fun h j hj => upd_on (h j hj)), hR.w18.keepM rfl (fun h j hj => upd_on (h j hj)), hR.w19.keepM rfl (fun h j hj => upd_on (h j hj)), hR.w21.keepM rfl (fun h j hj => upd_on (h j hj)), hR.w22.keepM rfl (fun h j hj => upd_on (h j hj)), hR.w25.keepM rfl (fun h j hj => upd_on (h j hj)), (fun _ j hj => upd_on (hw j hj)), hR.w27.keepM rfl (fun h j hj => upd_on (h j hj)), hR.w28.keepM rfl (fun h j hj => upd_on (h j hj)), hR.f0.keep rfl, hR.f1.keep rfl, hR.f2.keep rfl, hR.f3.keep rfl, hR.f4.keep rfl, hR.f5.keep rfl, hR.f6.keep rfl, hR.f7.keep rfl, hR.f8.keep rfl, hR.f9.keep rfl, hR.f10.keep rfl, hR.f11.keep rfl, hR.f12.keep rfl, (fun _ => rfl), (fun _ => rfl), hR.f15.keep rfl, hR.f16.keep rfl, hR.f17.keep rfl, hR.f18.keep rfl, hR.f19.keep rfl, hR.f20.keep rfl, hR.f21.keep rfl, (fun _ => rfl), (fun _ => rfl), hR.f24.keep rfl, (fun _ => rfl), (fun _ => rfl), hR.f27.keep rfl⟩⟩
                          refine EachOf.cons [4, 5] rfl (by kernel_rfl) ?_ ?_
                          · rintro L A W ⟨v, rfl, hR⟩ hi hw K hK
                            have hk : L 28 = false := hR.w28.not hi rfl
                            have e4 := hR.f4 (hw 4 (by simp))
                            have e5 := hR.f5 (hw 5 (by simp))
                            simp only [e4, e5]
                            clear e4 e5
                            go_simp
                            refine hK.out _ _ ?_
                            exact ⟨(fun jz => if jz = 113 then .slice (some ⟨G i, 0, none⟩) (n) (C i) else if jz = 114 then .int .i64 (j : Int) else if jz = 136 then .pointer (some ⟨G i, j, none⟩) else v jz), rfl, ⟨(fun h => hR.st (upd_false h)), hR.s1.keep rfl, hR.w1.keepM rfl (fun h j hj => upd_on (h j hj)), hR.w3.keepM rfl (fun h j hj => upd_on (h j hj)), hR.w4.keepM rfl (fun h j hj => upd_on (h j hj)), hR.w7.keepM rfl (fun h j hj => upd_on (h j hj)), hR.w9.keepM rfl (fun h j hj => upd_on (h j hj)), hR.w10.keepM rfl (fun h j hj => upd_on (h j hj)), hR.w12.keepM rfl (fun h j hj => upd_on (h j hj)), hR.w13.keepM rfl (fun h j hj => upd_on (h j hj)), hR.w16.keepM rfl (fun h j hj => upd_on (h j hj)), hR.w18.keepM rfl (fun h j hj => upd_on (h j hj)), hR.w19.keepM rfl (fun h j hj => upd_on (h j hj)), hR.w21.keepM rfl (fun h j hj => upd_on (h j hj)), hR.w22.keepM rfl (fun h j hj => upd_on (h j hj)), hR.w25.keepM rfl (fun h j hj => upd_on (h j hj)), hR.w26.keepM rfl (fun h j hj => upd_on (h j hj)), (fun _ j hj => upd_on (hw j hj)), hR.w28.keepM rfl (fun h j hj => upd_on (h j hj)), hR.f0.keep rfl, hR.f1.keep rfl, hR.f2.keep rfl, hR.f3.keep rfl, (fun _ => rfl), (fun _ => rfl), hR.f6.keep rfl, hR.f7.keep rfl, hR.f8.keep rfl, hR.f9.keep rfl, hR.f10.keep rfl, hR.f11.keep rfl, hR.f12.keep rfl, hR.f13.keep rfl, hR.f14.keep rfl, hR.f15.keep rfl, hR.f16.keep rfl, hR.f17.keep rfl, hR.f18.keep rfl, hR.f19.keep rfl, hR.f20.keep rfl, hR.f21.keep rfl, hR.f22.keep rfl, hR.f23.keep rfl, hR.f24.keep rfl, hR.f25.keep rfl, hR.f26.keep rfl, (fun _ => rfl)⟩⟩
                          refine EachOf.cons [0, 1, 2, 3, 4, 5, 6, 7, 8, 9, 10, 11, 12, 13, 14, 15, 16, 17, 18, 19, 20, 21, 22, 23, 24, 25, 26, 27] rfl (by kernel_rfl) ?_ ?_
                          · rintro L A W ⟨v, rfl, hR⟩ hi hw K hK
                            have e27 := hR.f27 (hw 27 (by simp))
                            have e26 := hR.f26 (hw 26 (by simp))
                            simp only [e27, e26]
                            clear e27 e26
                            have q1 := (hR.st hi).cell (p := ⟨G i, j, none⟩) LA.out.2
                            rw [LA.out.1] at q1
                            have q2 := (hR.st hi).frozen (p := ⟨G i, j, none⟩) LA.out.2
                            rw [LF.out] at q2
                            go_simp
                            refine hK.out _ _ ?_
                            exact ⟨(fun jz => if jz = 136 then .pointer (some ⟨G i, j, none⟩) else if jz = 135 then .int .i64 r else v jz), rfl, ⟨(fun h => by simp [upd_self] at h), (fun _ => ⟨W, hR.st hi, rfl⟩), hR.w1.keepM rfl (fun h j hj => upd_on (h j hj)), hR.w3.keepM rfl (fun h j hj => upd_on (h j hj)), hR.w4.keepM rfl (fun h j hj => upd_on (h j hj)), hR.w7.keepM rfl (fun h j hj => upd_on (h j hj)), hR.w9.keepM rfl (fun h j hj => upd_on (h j hj)), hR.w10.keepM rfl (fun h j hj => upd_on (h j hj)), hR.w12.keepM rfl (fun h j hj => upd_on (h j hj)), hR.w13.keepM rfl (fun h j hj => upd_on (h j hj)), hR.w16.keepM rfl (fun h j hj => upd_on (h j hj)), hR.w18.keepM rfl (fun h j hj => upd_on (h j hj)), hR.w19.keepM rfl (fun h j hj => upd_on (h j hj)), hR.w21.keepM rfl (fun h j hj => upd_on (h j hj)), hR.w22.keepM rfl (fun h j hj => upd_on (h j hj)), hR.w25.keepM rfl (fun h j hj => upd_on (h j hj)), hR.w26.keepM rfl (fun h j hj => upd_on (h j hj)), hR.w27.keepM rfl (fun h j hj => upd_on (h j hj)), (fun _ j hj => upd_on (hw j hj)), hR.f0.keep rfl, hR.f1.keep rfl, hR.f2.keep rfl, hR.f3.keep rfl, hR.f4.keep rfl, hR.f5.keep rfl, hR.f6.keep rfl, hR.f7.keep rfl, hR.f8.keep rfl, hR.f9.keep rfl, hR.f10.keep rfl, hR.f11.keep rfl, hR.f12.keep rfl, hR.f13.keep rfl, hR.f14.keep rfl, hR.f15.keep rfl, hR.f16.keep rfl, hR.f17.keep rfl, hR.f18.keep rfl, hR.f19.keep rfl, hR.f20.keep rfl, hR.f21.keep rfl, hR.f22.keep rfl, hR.f23.keep rfl, hR.f24.keep rfl, hR.f25.keep rfl, (fun _ => rfl), (fun _ => rfl)⟩⟩
                          exact EachOf.nil
                        rintro L A W ⟨v, rfl, hR⟩ hL
                        obtain ⟨W4, hb4, hW⟩ := hR.s1 (hL 28 (by simp))
                        have T1 := (S.out.1.on hb4).set i j hlti hltj r
                        rw [← HR.out, mix_set k i j P E HNE.out, HR.out, ← hW] at T1
                        have T2 : OBl W fb (.bool od) := by rw [hW]; exact (S.out.2.1.on hb4).only (only_set W4 ⟨G i, j, none⟩ _) (fun e => S.out.1.nr i hlti e.symm)
                        have T3 : ROut w W rb := by rw [hW]; exact (S.out.2.2.on hb4).set ⟨G i, j, none⟩ (S.out.1.g.row i hlti).1 _
                        have T := Lib.hid (And.intro T1 (And.intro T2 T3))
                        clear T1 T2 T3 hW hb4 W4 hR hL LM LI LK LA LC LL LF CR S HR
                        go_wp2_with fail
                        go_roundg (n - (j + 1))
                        case measure => omega
                        case rel => exact ⟨j + 1, rfl, rfl, by omega, T⟩
                      · have e : j = n := by omega
                        have T : Hid (ESt (rb + 1) W3 fb b R n Cb G C (mixE k (i + 1) 0 P E) (.slice pa k pc) k p D ∧ OBl W3 fb (.bool od) ∧ ROut w W3 rb) := ⟨S.out.1.congr fun r s hr hs => by rw [e]; exact mix_row k i n r s P E hs, S.out.2⟩
                        clear S
                        subst e
                        go_wp2_with fail
                        clear p0 p1
                        go_roundg (R - (i + 1))
                        case measure => omega
                        case rel => exact ⟨i + 1, rfl, rfl, by omega, T⟩
                · have e : i = R := by omega
                  subst e
                  have T1 : Hid (ESt (rb + 1) W2 fb b i n Cb G C P (.slice pa k pc) k p D) := S.out.1.congr fun r s hr hs => mix_end k i r s P E (HP2.out s) hr
                  have T2 := Lib.hid S.out.2
                  clear S
                  have x2 := T1.out.e.c2
                  have y2 := T1.out.e.f2
                  go_upto_region 24 with fail
                  clear x2 y2
                  have U1 := Lib.hid (T1.out.last vd)
                  have U2 : Hid (OBl (W2.setCell ⟨fb, 2, none⟩ (.int .i64 vd)) fb (.bool od) ∧ ROut w (W2.setCell ⟨fb, 2, none⟩ (.int .i64 vd)) rb) := ⟨T2.out.1.oth (by omega), T2.out.2.set ⟨fb, 2, none⟩ T1.out.le _⟩
                  clear T1 T2
                  generalize W2.setCell ⟨fb, 2, none⟩ (.int .i64 vd) = W3 at *
                  have hle : rb + 1 ≤ W3.heap.size := Nat.le_trans U1.out.le (Nat.le_of_lt U1.out.e.hb)
                  have HN1 : Hid (¬ (Value.slice pa k pc).ownBlock = some fb) := fun e => (U1.out.pb fb e).1 rfl
                  have BA : Hid (Below W3.heap.size W3 (W3.alloc (Obj.cells #[.int .i64 (c : Int)] 3))) := (Below.refl _ _).alloc (Nat.le_refl _) _
                  have OA : Hid ((W3.alloc (Obj.cells #[.int .i64 (c : Int)] 3)).ownsRow (rb + 1) 3 1 (.slice pa k pc) k ((List.range k).map fun l => Value.int .i64 (p l))) := (U1.out.on BA.out).o
                  have NA : Hid (∀ j u, [Value.int .i64 (c : Int)][j]? = some u → (W3.alloc (Obj.cells #[.int .i64 (c : Int)] 3)).cell? ((⟨W3.heap.size, 0, none⟩ : Addr).add j) = some u) := one_news (by simp [go_sem])
                  have hle2 : rb + 1 ≤ (W3.alloc (Obj.cells #[.int .i64 (c : Int)] 3)).heap.size := Nat.le_trans hle BA.out.size
                  have q1 := U1.out.e.c1
                  obtain ⟨i0, hi0, hz0, hz1, hz2⟩ := info_parts (show (Try.prog.info? 3).map (fun i => (i.zero, i.size, i.bytes)) = some (some (Value.int IntKind.i64 0), 1, 8) by kernel_rfl)
                  have wkk : IntKind.i64.wrap ((k : Int) + 1) = ((k + 1 : Nat) : Int) := by rw [IntWalk.i64_in _ (by omega)]; omega
                  go_wp2_with (at_builtin; refine wpList_append_lies _ rfl _ _ 29 rfl (rb + 1) 3 i0 (.int .i64 0) 1 8 Try.underlying29 hi0 hz0 hz1 hz2 rfl (by decide) _ _ _ rfl OA.out ⟨W3.heap.size, 0, none⟩ 1 1 [.int .i64 (c : Int)] rfl rfl NA.out (by intro u hu; simp at hu; subst hu; rfl) (by omega) (by unfold maxLen; omega) (by omega) hle2 _ rfl ?_; intro h cap W5 hown hgrow hat hlt5; have HA := Lib.hid (AppW.make BA.out hgrow hown hat hlt5); clear hown hgrow hat hlt5 OA NA q1; have q1 := (HA.out.only.cell (p := ⟨fb, 1, none⟩) U1.out.e.hb HN1.out).trans U1.out.e.c1; have q2 := (HA.out.only.frozen (p := ⟨fb, 1, none⟩) U1.out.e.hb HN1.out).trans U1.out.e.f1)
                  have V1 := U1.out.push c HA.out
                  have V2 : OBl (W5.setCell ⟨fb, 1, none⟩ (.slice (some ⟨h, 0, none⟩) (k + 1) cap)) fb (.bool od) := (U2.out.1.only HA.out.only HN1.out).oth (by omega)
                  have V3 : ROut w (W5.setCell ⟨fb, 1, none⟩ (.slice (some ⟨h, 0, none⟩) (k + 1) cap)) rb := (U2.out.2.only HA.out.only (fun q hq => (U1.out.o.lt q hq).1)).set ⟨fb, 1, none⟩ U1.out.le _
                  have V := Lib.hid (And.intro V1 (And.intro V2 V3))
                  have HV := HVD.out
                  have HPP : Hid (RInv i n m M U (sO od) (k + 1) (c + 1) (updP p k c) P vd) := by have := HP1.out; rw [HV] at this; exact this
                  clear V1 V2 V3 HA U1 U2 BA q1 q2 HV HP1 HP2 HP3 HI3 n3
                  go_roundg (cols - (c + 1))
                  case measure => omega
                  case rel => exact ⟨c + 1, k + 1, rfl, rfl, rfl, by omega, by omega, _, _, _, _, _, _, _, _, V, HPP⟩
        · have e : q = R := by omega
          subst e
          have eb : ((q : Int) == (q : Int)) = true := by simp
          have T := Lib.hid (HI.out.free hc (fun l h1 h2 => Z.out l h1 h2))
          clear HI Z
          go_wp2_with fail
          clear q0
          go_roundg (cols - (c + 1))
          case measure => omega
          case rel => exact ⟨c + 1, k, rfl, rfl, rfl, by omega, hkR, _, _, _, _, _, _, _, _, S, T⟩
    · have hfin : Hid (RInv R n m M U (sO od) k cols p E D) := by
        by_cases h1 : c < cols
        · have e : k = R := by omega
          subst e
          exact HI.out.skip cols (by omega) hcols
        · have e : c = cols := by omega
          subst e
          exact HI.out
      have q0 := S.out.1.e.c0
      have q1 := S.out.1.e.c1
      have q2 := S.out.1.e.c2
      have q3 := S.out.2.1.c3
      have r0 := S.out.2.2.e.c0
      have r1 := S.out.2.2.e.c1
      have r2 := S.out.2.2.e.c2
      have r3 := S.out.2.2.o.c3
      have s0 := S.out.2.2.e.f0
      have s1 := S.out.2.2.e.f1
      have s2 := S.out.2.2.e.f2
      have s3 := S.out.2.2.o.f3
      by_cases h1 : c < cols
      · have h2 : ¬ (k : Int) < (R : Int) := by omega
        go_wp2_with fail
        obtain ⟨W3, hW3⟩ : ∃ W, W = (((W1.setCell ⟨rb, 0, none⟩ (.slice (some ⟨b, 0, none⟩) R Cb)).setCell ⟨rb, 1, none⟩ (.slice pa k pc)).setCell ⟨rb, 2, none⟩ (.int .i64 D)).setCell ⟨rb, 3, none⟩ (.bool od) := ⟨_, rfl⟩
        have E3 := ((S.out.2.2.e.set0 (.slice (some ⟨b, 0, none⟩) R Cb)).set1 (.slice pa k pc)).set2 (.int .i64 D)
        have O3 : Only (fun q => q = rb) W1 W3 := by
          rw [hW3]
          exact ((((Only.refl (fun q => q = rb) W1).setCell ⟨rb, 0, none⟩ rfl _).setCell ⟨rb, 1, none⟩ rfl _).setCell ⟨rb, 2, none⟩ rfl _).setCell ⟨rb, 3, none⟩ rfl _
        have x3 : W3.cell? ⟨rb, 3, none⟩ = some (.bool od) := by
          rw [hW3]
          exact World.cell?_setCell_same' _ _ _ (by
            rw [World.cell?_setCell_other _ _ _ _ (adr_ne (b := rb) (i := 2) (j := 3) (by omega)), World.cell?_setCell_other _ _ _ _ (adr_ne (b := rb) (i := 1) (j := 3) (by omega)), World.cell?_setCell_other _ _ _ _ (adr_ne (b := rb) (i := 0) (j := 3) (by omega)), r3]; rfl)
        have x0 : W3.cell? ⟨rb, 0, none⟩ = some (.slice (some ⟨b, 0, none⟩) R Cb) := by rw [hW3, World.cell?_setCell_other _ _ _ _ (adr_ne (b := rb) (i := 3) (j := 0) (by omega))]; exact E3.c0
        have x1 : W3.cell? ⟨rb, 1, none⟩ = some (.slice pa k pc) := by rw [hW3, World.cell?_setCell_other _ _ _ _ (adr_ne (b := rb) (i := 3) (j := 1) (by omega))]; exact E3.c1
        have x2 : W3.cell? ⟨rb, 2, none⟩ = some (.int .i64 D) := by rw [hW3, World.cell?_setCell_other _ _ _ _ (adr_ne (b := rb) (i := 3) (j := 2) (by omega))]; exact E3.c2
        rw [← hW3]
        have HO := Lib.hid O3
        clear hW3 O3 q0 q1 q2 q3 r0 r1 r2 r3 s0 s1 s2 s3 E3
        (try simp only [Exit.inBlock, Exit.then])
        refine bodyPost_ret (by simp [results, Try.results49, x0, x1, x2, x3, go_sem]; rfl) rfl ?_
        have hwe : w.heap.size ≤ rb + 1 := by have := S.out.2.2.eq; omega
        refine ⟨S.out.2.2.b.trans (HO.out.below S.out.2.2.b.size (fun q hq => by have := S.out.2.2.eq; omega)), b, Cb, G, C, U, E, _, k, p, D, od, rfl, S.out.1.cb, (S.out.1.g.only HO.out (fun e => by have := S.out.1.g.lb; omega) (fun l hl e => by have := (S.out.1.g.row l hl).1; omega)).mono hwe, own_base (own_only S.out.1.o HO.out (fun q hq e => by have := (S.out.1.o.lt q hq).1; omega)) hwe, hfin.out⟩
      · have h2 : ¬ (c : Int) < (cols : Int) := by omega
        go_wp2_with fail
        obtain ⟨W3, hW3⟩ : ∃ W, W = (((W1.setCell ⟨rb, 0, none⟩ (.slice (some ⟨b, 0, none⟩) R Cb)).setCell ⟨rb, 1, none⟩ (.slice pa k pc)).setCell ⟨rb, 2, none⟩ (.int .i64 D)).setCell ⟨rb, 3, none⟩ (.bool od) := ⟨_, rfl⟩
        have E3 := ((S.out.2.2.e.set0 (.slice (some ⟨b, 0, none⟩) R Cb)).set1 (.slice pa k pc)).set2 (.int .i64 D)
        have O3 : Only (fun q => q = rb) W1 W3 := by
          rw [hW3]
          exact ((((Only.refl (fun q => q = rb) W1).setCell ⟨rb, 0, none⟩ rfl _).setCell ⟨rb, 1, none⟩ rfl _).setCell ⟨rb, 2, none⟩ rfl _).setCell ⟨rb, 3, none⟩ rfl _
        have x3 : W3.cell? ⟨rb, 3, none⟩ = some (.bool od) := by
          rw [hW3]
          exact World.cell?_setCell_same' _ _ _ (by
            rw [World.cell?_setCell_other _ _ _ _ (adr_ne (b := rb) (i := 2) (j := 3) (by omega)), World.cell?_setCell_other _ _ _ _ (adr_ne (b := rb) (i := 1) (j := 3) (by omega)), World.cell?_setCell_other _ _ _ _ (adr_ne (b := rb) (i := 0) (j := 3) (by omega)), r3]; rfl)
        have x0 : W3.cell? ⟨rb, 0, none⟩ = some (.slice (some ⟨b, 0, none⟩) R Cb) := by rw [hW3, World.cell?_setCell_other _ _ _ _ (adr_ne (b := rb) (i := 3) (j := 0) (by omega))]; exact E3.c0
        have x1 : W3.cell? ⟨rb, 1, none⟩ = some (.slice pa k pc) := by rw [hW3, World.cell?_setCell_other _ _ _ _ (adr_ne (b := rb) (i := 3) (j := 1) (by omega))]; exact E3.c1
        have x2 : W3.cell? ⟨rb, 2, none⟩ = some (.int .i64 D) := by rw [hW3, World.cell?_setCell_other _ _ _ _ (adr_ne (b := rb) (i := 3) (j := 2) (by omega))]; exact E3.c2
        rw [← hW3]
        have HO := Lib.hid O3
        clear hW3 O3 q0 q1 q2 q3 r0 r1 r2 r3 s0 s1 s2 s3 E3
        (try simp only [Exit.inBlock, Exit.then])
        refine bodyPost_ret (by simp [results, Try.results49, x0, x1, x2, x3, go_sem]; rfl) rfl ?_
        have hwe : w.heap.size ≤ rb + 1 := by have := S.out.2.2.eq; omega
        refine ⟨S.out.2.2.b.trans (HO.out.below S.out.2.2.b.size (fun q hq => by have := S.out.2.2.eq; omega)), b, Cb, G, C, U, E, _, k, p, D, od, rfl, S.out.1.cb, (S.out.1.g.only HO.out (fun e => by have := S.out.1.g.lb; omega) (fun l hl e => by have := (S.out.1.g.row l hl).1; omega)).mono hwe, own_base (own_only S.out.1.o HO.out (fun q hq e => by have := (S.out.1.o.lt q hq).1; omega)) hwe, hfin.out⟩

end Go.Proofs.Ytjggnmbdgagkoaa
