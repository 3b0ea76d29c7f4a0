/- Layer 4: the elimination of a matrix. -/
import Derived.Test.YtjggnmbdgagkoaaLSimp
namespace Go.Proofs.Ytjggnmbdgagkoaa
set_option linter.unusedVariables false
open Go.RowKit Go.Shelf

/-- A matrix in memory that is read alone. -/
structure Mat (W : World) (mb mo R n : Nat) (Ga Oa Ka : Nat → Nat) (M : Nat → Nat → Int) : Prop where
  hb : mb < W.heap.size
  top : ∀ i, i < R → W.cell? ⟨mb, mo + i, none⟩ = some (.slice (some ⟨Ga i, Oa i, none⟩) n (Ka i))
  row : ∀ i, i < R → Ga i < W.heap.size
  cell : ∀ i j, i < R → j < n → W.cell? ⟨Ga i, Oa i + j, none⟩ = some (.int .i64 (M i j))
theorem Mat.on {W W2 : World} {mb mo R n : Nat} {Ga Oa Ka : Nat → Nat} {M : Nat → Nat → Int} (h : Mat W mb mo R n Ga Oa Ka M) (hb : Below W.heap.size W W2) : Mat W2 mb mo R n Ga Oa Ka M where
  hb := Nat.lt_of_lt_of_le h.hb hb.size
  top i hi := (hb.cell (p := ⟨mb, mo + i, none⟩) h.hb).trans (h.top i hi)
  row i hi := Nat.lt_of_lt_of_le (h.row i hi) hb.size
  cell i j hi hj := (hb.cell (p := ⟨Ga i, Oa i + j, none⟩) (h.row i hi)).trans (h.cell i j hi hj)

/-- A row of integers in a block of its own. -/
structure NRow (lo n : Nat) (W : World) (g cp : Nat) (f : Nat → Int) : Prop where
  lo : lo ≤ g
  hb : g < W.heap.size
  cap : n ≤ cp
  cell : ∀ j, j < n → W.cell? ⟨g, j, none⟩ = some (.int .i64 (f j))
  fz : ∀ j, j < n → W.frozen? ⟨g, j, none⟩ = false
theorem NRow.on {lo n : Nat} {W W2 : World} {g cp : Nat} {f : Nat → Int} (h : NRow lo n W g cp f) (hb : Below W.heap.size W W2) : NRow lo n W2 g cp f :=
  ⟨h.lo, Nat.lt_of_lt_of_le h.hb hb.size, h.cap, fun j hj => (hb.cell (p := ⟨g, j, none⟩) h.hb).trans (h.cell j hj), fun j hj => (hb.frozen (p := ⟨g, j, none⟩) h.hb).trans (h.fz j hj)⟩
theorem NRow.only {S : Nat → Prop} {lo n : Nat} {W W2 : World} {g cp : Nat} {f : Nat → Int} (h : NRow lo n W g cp f) (hb : Only S W W2) (hn : ¬ S g) : NRow lo n W2 g cp f :=
  ⟨h.lo, Nat.lt_of_lt_of_le h.hb hb.size, h.cap, fun j hj => (hb.cell (p := ⟨g, j, none⟩) h.hb hn).trans (h.cell j hj), fun j hj => (hb.frozen (p := ⟨g, j, none⟩) h.hb hn).trans (h.fz j hj)⟩
theorem NRow.mono {lo lo2 n : Nat} {W : World} {g cp : Nat} {f : Nat → Int} (h : NRow lo n W g cp f) (hl : lo2 ≤ lo) : NRow lo2 n W g cp f := ⟨Nat.le_trans hl h.lo, h.hb, h.cap, h.cell, h.fz⟩

theorem own_nrow {W : World} {base n : Nat} {v : Value} {f : Nat → Int} (h : W.ownsRow base 3 1 v n ((List.range n).map fun j => Value.int .i64 (f j))) (hn : 0 < n) : ∃ g cp, v = .slice (some ⟨g, 0, none⟩) n cp ∧ NRow base n W g cp f := by
  have h2 := h
  rcases h.2 with ⟨_, h0⟩ | ⟨g, cap, cur, hv, hb, hg, hc, _⟩
  · omega
  · refine ⟨g, cap, hv, hb, (Array.getElem?_eq_some_iff.1 hg).1, hc, fun j hj => ?_, fun j hj => own_frozen h2 (by rw [hv]; rfl) j⟩
    have := h2.cells (g := g) (by rw [hv]; rfl) j (.int .i64 (f j)) (by simp [hj])
    rwa [show (⟨g, 0, none⟩ : Addr).add j = ⟨g, j, none⟩ by unfold Addr.add; split <;> simp_all] at this

theorem clone_row {W : World} {mb mo R n : Nat} {Ga Oa Ka : Nat → Nat} {M : Nat → Nat → Int} (h : Mat W mb mo R n Ga Oa Ka M) (i : Nat) (hi : i < R) (hn : 0 < n) (hn13 : n ≤ 13) :
    Calls Try.prog 41 #[.slice (some ⟨Ga i, Oa i, none⟩) n (Ka i)] W fun e w' => ∃ g cp, e = .returned (.slice (some ⟨g, 0, none⟩) n cp) ∧ NRow W.heap.size n w' g cp (M i) ∧ Below W.heap.size W w' := by
  refine (Try.slices_Clone_int (Ga i) (Oa i) n (Ka i) ((List.range n).map (M i)) W (by simp) (by omega) (fun j hj => ?_)).mono ?_
  · have hj' : j < n := by simpa using hj
    rw [h.cell i j hi hj']
    simp [List.getD, hj']
  · rintro e w' ⟨v, rfl, ho, _, hb⟩
    have e1 : (((List.range n).map (M i)).take n).map (Value.int .i64) = (List.range n).map fun j => Value.int .i64 (M i j) := by
      rw [List.take_of_length_le (by simp), List.map_map]; rfl
    rw [e1] at ho
    obtain ⟨g, cp, rfl, hN⟩ := own_nrow ho hn
    exact ⟨g, cp, rfl, hN, hb⟩

theorem EBlk.lo {B : Nat} {W W2 : World} {b : Nat} {v0 v1 v2 : Value} (h : EBlk W b v0 v1 v2) (hb : Below B W W2) (hl : b < B) : EBlk W2 b v0 v1 v2 :=
  ⟨Nat.lt_of_lt_of_le h.hb hb.size, (hb.cell (p := ⟨b, 0, none⟩) hl).trans h.c0, (hb.cell (p := ⟨b, 1, none⟩) hl).trans h.c1, (hb.cell (p := ⟨b, 2, none⟩) hl).trans h.c2,
   (hb.frozen (p := ⟨b, 0, none⟩) hl).trans h.f0, (hb.frozen (p := ⟨b, 1, none⟩) hl).trans h.f1, (hb.frozen (p := ⟨b, 2, none⟩) hl).trans h.f2⟩
theorem own_base {W : World} {base base2 : Nat} {t : TypeId} {size k : Nat} {v : Value} {xs : List Value} (h : W.ownsRow base t size v k xs) (hb : base2 ≤ base) : W.ownsRow base2 t size v k xs := by
  refine ⟨h.1, ?_⟩
  rcases h.2 with h2 | ⟨g, cap, cur, hv, hg, r⟩
  · exact .inl h2
  · exact .inr ⟨g, cap, cur, hv, Nat.le_trans hb hg, r⟩
theorem Grid.mono {B0 B1 : Nat} {W : World} {b R n : Nat} {G C : Nat → Nat} {E : Nat → Nat → Int} (h : Grid B0 W b R n G C E) (hl : B1 ≤ B0) : Grid B1 W b R n G C E :=
  ⟨Nat.le_trans hl h.lb, h.hb, h.top, h.tfz, fun i hi => ⟨Nat.le_trans hl (h.row i hi).1, (h.row i hi).2⟩, h.cap, h.inj, h.cell, h.fz⟩

/-- An own list of rows with one row more. -/
structure App2 (Wc W : World) (eb n i : Nat) (rv : Value) (old : List Value) (f : Nat → Int) (y : Value) (g cp : Nat) : Prop where
  row : NRow Wc.heap.size n W g cp f
  app : AppW Wc W eb 29 rv i (old ++ [.slice (some ⟨g, 0, none⟩) n cp]) y
  ne : y.ownBlock ≠ some g
theorem App2.make {Wc W W2 : World} {eb n i : Nat} {rv : Value} {old : List Value} {f : Nat → Int} {g cp h cap : Nat} (hb : Below Wc.heap.size Wc W) (hr : NRow Wc.heap.size n W g cp f) (hrv : ∀ q, rv.ownBlock = some q → q < Wc.heap.size) (hg : W.grownBy W2 rv.ownBlock) (ho : W2.ownsRow eb 29 1 (.slice (some ⟨h, 0, none⟩) (i + 1) cap) (i + 1) (old ++ [.slice (some ⟨g, 0, none⟩) n cp])) (ha : rv.ownBlock = some h ∨ h = W.heap.size) (hl : h < W2.heap.size) :
    App2 Wc W2 eb n i rv old f (.slice (some ⟨h, 0, none⟩) (i + 1) cap) g cp := by
  have n1 : ¬ (rv.ownBlock = some g) := fun e => by have := hrv g e; have := hr.lo; omega
  refine ⟨hr.only (S := fun q => rv.ownBlock = some q) ⟨hg.os, hg.tape, hg.output, hg.size, fun c hc hn => hg.block c hc (fun e => hn e.symm)⟩ n1, AppW.make hb hg ho ha hl, fun e => ?_⟩
  have e2 : h = g := by simpa [Value.ownBlock] using e
  subst e2
  rcases ha with ha | ha
  · exact n1 ha
  · have := hr.hb; omega

def updN (G : Nat → Nat) (i g : Nat) : Nat → Nat := fun l => if l = i then g else G l

/-- The rows while they are copied. -/
structure Grow (W : World) (eb n i : Nat) (G C : Nat → Nat) (M : Nat → Nat → Int) (rv : Value) : Prop where
  e : EBlk W eb rv (.slice none 0 0) (.int .i64 1)
  own : W.ownsRow eb 29 1 rv i ((List.range i).map fun l => Value.slice (some ⟨G l, 0, none⟩) n (C l))
  row : ∀ l, l < i → eb < G l ∧ G l < W.heap.size ∧ rv.ownBlock ≠ some (G l)
  rn : rv.ownBlock ≠ some eb
  cap : ∀ l, l < i → n ≤ C l
  inj : ∀ l k, l < i → k < i → G l = G k → l = k
  cell : ∀ l j, l < i → j < n → W.cell? ⟨G l, j, none⟩ = some (.int .i64 (M l j))
  fz : ∀ l j, l < i → j < n → W.frozen? ⟨G l, j, none⟩ = false
theorem row_list (n i g cp : Nat) (G C : Nat → Nat) : ((List.range (i + 1)).map fun l => Value.slice (some ⟨updN G i g l, 0, none⟩) n (updN C i cp l)) = ((List.range i).map fun l => Value.slice (some ⟨G l, 0, none⟩) n (C l)) ++ [Value.slice (some ⟨g, 0, none⟩) n cp] := by
  rw [List.range_succ, List.map_append]
  congr 1
  · apply List.map_congr_left
    intro l hl
    have : l < i := by simpa using hl
    unfold updN
    rw [if_neg (by omega), if_neg (by omega)]
  · simp [updN]
theorem Grow.push {W W2 : World} {eb n i : Nat} {G C : Nat → Nat} {M : Nat → Nat → Int} {rv y : Value} {g cp : Nat} (h : Grow W eb n i G C M rv)
    (a : App2 W W2 eb n i rv ((List.range i).map fun l => Value.slice (some ⟨G l, 0, none⟩) n (C l)) (M i) y g cp) :
    Grow (W2.setCell ⟨eb, 0, none⟩ y) eb n (i + 1) (updN G i g) (updN C i cp) M y := by
  have n1 : ¬ (rv.ownBlock = some eb) := h.rn
  have n3 : ∀ l, l < i → ¬ (rv.ownBlock = some (G l)) := fun l hl => (h.row l hl).2.2
  obtain ⟨q, cap, hz, hq, hlq⟩ := a.app.form
  have gz : ∀ x, y.ownBlock = some x → x = q := fun x hx => by rw [hz] at hx; simp [Value.ownBlock] at hx; exact hx.symm
  have q1 : q ≠ eb := fun e => by
    subst e
    rcases hq with hq | hq
    · exact n1 hq
    · have := h.e.hb; omega
  have q3 : ∀ l, l < i → G l ≠ q := fun l hl e => by
    subst e
    rcases hq with hq | hq
    · exact n3 l hl hq
    · have := (h.row l hl).2.1; omega
  have q4 : y.ownBlock = some q := by rw [hz]; rfl
  have q5 : g ≠ q := fun e => a.ne (by rw [q4, e])
  have g1 : eb < g := by have := h.e.hb; have := a.row.lo; omega
  have o2 := only_set W2 ⟨eb, 0, none⟩ y
  have oo : Only (fun x => rv.ownBlock = some x ∨ x = eb) W (W2.setCell ⟨eb, 0, none⟩ y) := (a.app.only.mono (fun c h => .inl h)).trans (o2.mono (fun c h => .inr h))
  have row := a.row.only o2 (fun e => by have e2 : g = eb := e; omega)
  have pick : ∀ l, l < i + 1 → (l = i ∧ updN G i g l = g ∧ updN C i cp l = cp) ∨ (l < i ∧ updN G i g l = G l ∧ updN C i cp l = C l) := fun l hl => by
    unfold updN
    by_cases e : l = i
    · exact .inl ⟨e, if_pos e, if_pos e⟩
    · exact .inr ⟨by omega, if_neg e, if_neg e⟩
  refine ⟨(h.e.only a.app.only n1).set0 y, ?_, fun l hl => ?_, fun e => q1 (gz eb e).symm, fun l hl => ?_, fun l k hl hk e => ?_, fun l j hl hj => ?_, fun l j hl hj => ?_⟩
  · rw [row_list]
    exact own_only a.app.own o2 (fun x hx e => q1 (by rw [← gz x hx]; exact e))
  · rcases pick l hl with ⟨_, e1, _⟩ | ⟨h1, e1, _⟩
    · rw [e1]; exact ⟨g1, by simpa using a.row.hb, fun e => q5 (gz g e)⟩
    · rw [e1]; exact ⟨(h.row l h1).1, Nat.lt_of_lt_of_le (h.row l h1).2.1 oo.size, fun e => q3 l h1 (gz _ e)⟩
  · rcases pick l hl with ⟨_, _, e1⟩ | ⟨h1, _, e1⟩
    · rw [e1]; exact a.row.cap
    · rw [e1]; exact h.cap l h1
  · have lo := a.row.lo
    rcases pick l hl with ⟨e0, e1, _⟩ | ⟨h1, e1, _⟩ <;> rcases pick k hk with ⟨f0, f1, _⟩ | ⟨k1, f1, _⟩ <;> rw [e1, f1] at e
    · omega
    · have := (h.row k k1).2.1; omega
    · have := (h.row l h1).2.1; omega
    · exact h.inj l k h1 k1 e
  · rcases pick l hl with ⟨e0, e1, _⟩ | ⟨h1, e1, _⟩
    · rw [e1, e0]; exact row.cell j hj
    · rw [e1, oo.cell (p := ⟨G l, j, none⟩) (h.row l h1).2.1 (fun e => by
        rcases e with e | e
        · exact n3 l h1 e
        · have e2 : G l = eb := e
          have := (h.row l h1).1; omega)]
      exact h.cell l j h1 hj
  · rcases pick l hl with ⟨e0, e1, _⟩ | ⟨h1, e1, _⟩
    · rw [e1]; exact row.fz j hj
    · rw [e1, oo.frozen (p := ⟨G l, j, none⟩) (h.row l h1).2.1 (fun e => by
        rcases e with e | e
        · exact n3 l h1 e
        · have e2 : G l = eb := e
          have := (h.row l h1).1; omega)]
      exact h.fz l j h1 hj
theorem Grow.est {W : World} {eb n R : Nat} {G C : Nat → Nat} {M : Nat → Nat → Int} {rv : Value} (h : Grow W eb n R G C M rv) (hR : 0 < R) (p : Nat → Nat) : ∃ b Cb, ESt eb W eb b R n Cb G C M (.slice none 0 0) 0 p 1 := by
  have ho := h.own
  rcases h.own.2 with ⟨_, h0⟩ | ⟨b, Cb, cur, hv, hb, hg, hc, _⟩
  · omega
  · have rb : rv.ownBlock = some b := by rw [hv]; rfl
    refine ⟨b, Cb, ⟨by rw [← hv]; exact h.e, ⟨hb, (Array.getElem?_eq_some_iff.1 hg).1, fun i hi => ?_, fun i hi => own_frozen ho rb i, fun i hi => ⟨by have := (h.row i hi).1; omega, (h.row i hi).2.1, fun e => (h.row i hi).2.2 (by rw [rb, e])⟩, h.cap, h.inj, h.cell, h.fz⟩, World.ownsRow_nil _ _ _ _, fun e => h.rn (by rw [rb, e]), fun i hi e => by have := (h.row i hi).1; omega, fun q hq => (by cases hq), Nat.le_refl _, hc⟩⟩
    have := ho.cells rb i (.slice (some ⟨G i, 0, none⟩) n (C i)) (by simp [hi])
    rwa [show (⟨b, 0, none⟩ : Addr).add i = ⟨b, i, none⟩ by unfold Addr.add; split <;> simp_all] at this

theorem start_el (w : World) : ∀ W, W = (w.alloc (Obj.cells #[Value.slice none 0 0, Value.slice none 0 0, Value.int IntKind.i64 0] 68)).alloc (Obj.cells #[Value.slice none 0 0, Value.slice none 0 0, Value.int IntKind.i64 1] 68) →
    Below w.heap.size w W ∧ EBlk W w.heap.size (.slice none 0 0) (.slice none 0 0) (.int .i64 0) ∧ EBlk W (w.heap.size + 1) (.slice none 0 0) (.slice none 0 0) (.int .i64 1) := by
  intro W hW
  subst hW
  refine ⟨(by repeat' (first | (with_reducible exact Below.refl _ _) | (with_reducible assumption) | (with_reducible refine Below.alloc ?_ ?_ _) | (with_reducible refine below_drew ?_ _) | (with_reducible refine Below.drew ?_) | (with_reducible refine Below.setCell ?_ ?_ _) | go_size)), ?_, ?_⟩
  · have e : EBlk (w.alloc (Obj.cells #[Value.slice none 0 0, Value.slice none 0 0, Value.int IntKind.i64 0] 68)) w.heap.size (.slice none 0 0) (.slice none 0 0) (.int .i64 0) :=
      ⟨by simp, by simp [go_sem], by simp [go_sem], by simp [go_sem], by simp [go_sem], by simp [go_sem], by simp [go_sem]⟩
    exact e.on ((Below.refl _ _).alloc (Nat.le_refl _) _)
  · have e : ∀ V : World, EBlk (V.alloc (Obj.cells #[Value.slice none 0 0, Value.slice none 0 0, Value.int IntKind.i64 1] 68)) V.heap.size (.slice none 0 0) (.slice none 0 0) (.int .i64 1) := fun V =>
      ⟨by simp, by simp [go_sem], by simp [go_sem], by simp [go_sem], by simp [go_sem], by simp [go_sem], by simp [go_sem]⟩
    have := e (w.alloc (Obj.cells #[Value.slice none 0 0, Value.slice none 0 0, Value.int IntKind.i64 0] 68))
    rwa [World.size_alloc] at this

structure ElmR (eb n i pc : Nat) (Ga Oa Ka : Nat → Nat) (pa : Option Addr) (G C : Nat → Nat) (M : Nat → Nat → Int) (Wc : World) (L : Nat → Bool) (v : Nat → Value) (W : World) : Prop where
  st : L 5 = false → Below Wc.heap.size Wc W
  xC : Had L 3 (L 5 = false → ∃ g cp, v 17 = .slice (some ⟨g, 0, none⟩) n cp ∧ NRow Wc.heap.size n W g cp (M i))
  xB : Had L 4 (L 5 = false → ∃ g cp B, v 18 = .slice (some ⟨B, 0, none⟩) 1 1 ∧ W.cell? ⟨B, 0, none⟩ = some (.slice (some ⟨g, 0, none⟩) n cp) ∧ NRow Wc.heap.size n W g cp (M i))
  xA : Had L 5 (L 7 = false → ∃ g cp, App2 Wc W eb n i (.slice pa i pc) ((List.range i).map fun l => Value.slice (some ⟨G l, 0, none⟩) n (C l)) (M i) (v 19) g cp)
  s1 : Had L 7 (∃ W2 y g cp, App2 Wc W2 eb n i (.slice pa i pc) ((List.range i).map fun l => Value.slice (some ⟨G l, 0, none⟩) n (C l)) (M i) y g cp ∧ W = W2.setCell ⟨eb, 0, none⟩ y)
  w1 : Had L 1 (∀ j ∈ [0], L j = true)
  w3 : Had L 3 (∀ j ∈ [2], L j = true)
  w4 : Had L 4 (∀ j ∈ [3], L j = true)
  w5 : Had L 5 (∀ j ∈ [1, 4], L j = true)
  w7 : Had L 7 (∀ j ∈ [0, 1, 2, 3, 4, 5, 6], L j = true)
  f0 : Had L 0 (v 14 = .pointer (some ⟨eb, 0, none⟩))
  f1 : Had L 1 (v 15 = .slice pa i pc)
  f2 : Had L 2 (v 16 = .slice (some ⟨Ga i, Oa i, none⟩) (n) (Ka i))
  f6 : Had L 6 (v 20 = .pointer (some ⟨eb, 0, none⟩))

set_option maxRecDepth 100000 in
set_option maxHeartbeats 16000000 in
theorem eliminate_any (mb mo mc R n m : Nat) (Ga Oa Ka : Nat → Nat) (M : Nat → Nat → Int) (w : World) (hM : Mat w mb mo R n Ga Oa Ka M) (hR0 : 0 < R) (hR13 : R ≤ 13) (hn : 0 < n) (hn13 : n ≤ 13) (r6 : R ≤ 6 ∨ n ≤ 6) (sm : ∀ i j, i < R → j < n → - cB m j ≤ M i j ∧ M i j ≤ cB m j) :
    Calls Try.prog 44 #[.slice (some ⟨mb, mo, none⟩) R mc] w fun e w' => Below w.heap.size w w' ∧
      ∃ b Cb G C U E pv k p D, e = .returned (.agg #[.slice (some ⟨b, 0, none⟩) R Cb, pv, .int .i64 D]) ∧ R ≤ Cb ∧ Grid w.heap.size w' b R n G C E ∧ w'.ownsRow w.heap.size 3 1 pv k ((List.range k).map fun l => Value.int .i64 (p l)) ∧ EInv R n m M U k n p E D := by
  obtain ⟨W0, hW0⟩ : ∃ W, W = (w.alloc (Obj.cells #[Value.slice none 0 0, Value.slice none 0 0, Value.int IntKind.i64 0] 68)).alloc (Obj.cells #[Value.slice none 0 0, Value.slice none 0 0, Value.int IntKind.i64 1] 68) := ⟨_, rfl⟩
  obtain ⟨hb0, hr0, he0⟩ := start_el w W0 hW0
  obtain ⟨rb, hrb⟩ : ∃ x, x = w.heap.size := ⟨_, rfl⟩
  obtain ⟨eb, heb⟩ : ∃ x, x = w.heap.size + 1 := ⟨_, rfl⟩
  rw [← heb] at he0
  rw [← hrb] at hr0
  have HM := Lib.hid hM
  have HS := Lib.hid (EInv.start sm r6 (fun _ => 0))
  have HB := Lib.hid hb0
  have HE := Lib.hid (And.intro hrb heb)
  have S0 : Hid (Grow W0 eb n 0 (fun _ => 0) (fun _ => 0) M (.slice none 0 0) ∧ EBlk W0 rb (.slice none 0 0) (.slice none 0 0) (.int .i64 0)) :=
    ⟨⟨he0, World.ownsRow_nil _ _ _ _, fun l h => by omega, by simp [Value.ownBlock], fun l h => by omega, fun l k h => by omega, fun l j h => by omega, fun l j h => by omega⟩, hr0⟩
  clear hM sm hb0 hr0 he0
  go_enter Try.func44, Try.ntmps44
  go_upto_region 2 with fail
  rw [← hW0, ← heb, ← hrb]
  clear hW0 heb hrb
  go_wp2_with fail
  go_loopg [10] R (fun g s10 wx => ∃ i : Nat, s10 = .int .i64 i ∧ g = R - i ∧ i ≤ R ∧ Hid (Below w.heap.size w wx) ∧ ∃ G C rv, Hid (Grow wx eb n i G C M rv ∧ EBlk wx rb (.slice none 0 0) (.slice none 0 0) (.int .i64 0)))
  case atStart => exact ⟨0, rfl, rfl, Nat.zero_le _, HB, _, _, _, S0⟩
  case round =>
    clear S0 HB
    obtain ⟨i, rfl, rfl, hi, HB, G, C, rv, S⟩ := hrel
    rename World => W1
    by_cases hlt : i < R
    · have wk : IntKind.i64.wrap ((i : Int) + 1) = ((i + 1 : Nat) : Int) := by rw [IntWalk.i64_in _ (by omega)]; omega
      have LM := Lib.hid (HM.out.on HB.out)
      have p1 := LM.out.top i hlt
      have LR : Hid (W1.cell? ⟨eb, 0, none⟩ = some rv ∧ eb < W1.heap.size) := ⟨S.out.1.e.c0, S.out.1.e.hb⟩
      have LF : Hid (W1.frozen? ⟨eb, 0, none⟩ = false) := S.out.1.e.f0
      have LN : Hid (¬ (rv.ownBlock = some eb)) := S.out.1.rn
      have LO := Lib.hid S.out.1.own
      have LB : Hid (eb ≤ W1.heap.size) := Nat.le_of_lt S.out.1.e.hb
      obtain ⟨pa, pc, hrv⟩ := own_form LO.out
      have LV : Hid (∀ q, rv.ownBlock = some q → q < W1.heap.size) := fun q hq => (LO.out.lt q hq).2
      subst hrv
      go_upto_region 5 with fail
      clear p1
      refine wp_region_each (fun L A W => ∃ (v : Nat → Value), A = ⟨#[_, _, _, _, _, _, _, _, _, _, _, _, _, _, v 14, v 15, v 16, v 17, v 18, v 19, v 20, _, _, _, _, _, _, _, _, _, _, _, _], []⟩ ∧ ElmR eb n i pc Ga Oa Ka pa G C M W1 L v W) (by kernel_rfl) (by kernel_rfl) ⟨fun jz => if jz = 14 then u14 else if jz = 15 then u15 else if jz = 16 then u16 else if jz = 17 then u17 else if jz = 18 then u18 else if jz = 19 then u19 else if jz = 20 then u20 else undef, rfl, ⟨(fun _ => Below.drew (Below.refl _ _)), Had.none, Had.none, Had.none, Had.none, Had.none, Had.none, Had.none, Had.none, Had.none, Had.none, Had.none, Had.none, Had.none⟩⟩ (rs := [0, 1, 2, 3, 4, 5, 6, 7]) (by kernel_rfl) ?_ ?_
      · refine EachOf.cons [] rfl (by kernel_rfl) ?_ ?_
        · rintro L A W ⟨v, rfl, hR⟩ hi hw K hK
          have hk : L 5 = false := hR.w5.not (hR.w1.not hi rfl) rfl
          go_simp
          refine hK.out _ _ ?_
          exact ⟨(fun jz => if jz = 14 then .pointer (some ⟨eb, 0, none⟩) else v jz), rfl, ⟨(fun h => hR.st (upd_false h)), hR.xC.keepM rfl (fun h hx => h (upd_false hx)), hR.xB.keepM rfl (fun h hx => h (upd_false hx)), hR.xA.keepM rfl (fun h hx => h (upd_false hx)), hR.s1.keep rfl, hR.w1.keepM rfl (fun h j hj => upd_on (h j hj)), hR.w3.keepM rfl (fun h j hj => upd_on (h j hj)), hR.w4.keepM rfl (fun h j hj => upd_on (h j hj)), hR.w5.keepM rfl (fun h j hj => upd_on (h j hj)), hR.w7.keepM rfl (fun h j hj => upd_on (h j hj)), (fun _ => rfl), hR.f1.keep rfl, hR.f2.keep rfl, hR.f6.keep rfl⟩⟩
        refine EachOf.cons [0] rfl (by kernel_rfl) ?_ ?_
        · rintro L A W ⟨v, rfl, hR⟩ hi hw K hK
          have hk : L 5 = false := hR.w5.not hi rfl
          have e0 := hR.f0 (hw 0 (by simp))
          simp only [e0]
          clear e0
          have q0 := ((hR.st hk).cell (p := ⟨eb, 0, none⟩) LR.out.2).trans LR.out.1
          go_simp
          refine hK.out _ _ ?_
          exact ⟨(fun jz => if jz = 14 then .pointer (some ⟨eb, 0, none⟩) else if jz = 15 then .slice pa i pc else v jz), rfl, ⟨(fun h => hR.st (upd_false h)), hR.xC.keepM rfl (fun h hx => h (upd_false hx)), hR.xB.keepM rfl (fun h hx => h (upd_false hx)), hR.xA.keepM rfl (fun h hx => h (upd_false hx)), hR.s1.keep rfl, (fun _ j hj => upd_on (hw j hj)), hR.w3.keepM rfl (fun h j hj => upd_on (h j hj)), hR.w4.keepM rfl (fun h j hj => upd_on (h j hj)), hR.w5.keepM rfl (fun h j hj => upd_on (h j hj)), hR.w7.keepM rfl (fun h j hj => upd_on (h j hj)), (fun _ => rfl), (fun _ => rfl), hR.f2.keep rfl, hR.f6.keep rfl⟩⟩
        refine EachOf.cons [] rfl (by kernel_rfl) ?_ ?_
        · rintro L A W ⟨v, rfl, hR⟩ hi hw K hK
          have hk : L 5 = false := hR.w5.not (hR.w4.not (hR.w3.not hi rfl) rfl) rfl
          go_simp
          refine hK.out _ _ ?_
          exact ⟨(fun jz => if jz = 16 then .slice (some ⟨Ga i, Oa i, none⟩) (n) (Ka i) else v jz), rfl, ⟨(fun h => hR.st (upd_false h)), hR.xC.keepM rfl (fun h hx => h (upd_false hx)), hR.xB.keepM rfl (fun h hx => h (upd_false hx)), hR.xA.keepM rfl (fun h hx => h (upd_false hx)), hR.s1.keep rfl, hR.w1.keepM rfl (fun h j hj => upd_on (h j hj)), hR.w3.keepM rfl (fun h j hj => upd_on (h j hj)), hR.w4.keepM rfl (fun h j hj => upd_on (h j hj)), hR.w5.keepM rfl (fun h j hj => upd_on (h j hj)), hR.w7.keepM rfl (fun h j hj => upd_on (h j hj)), hR.f0.keep rfl, hR.f1.keep rfl, (fun _ => rfl), hR.f6.keep rfl⟩⟩
        refine EachOf.cons [2] rfl (by kernel_rfl) ?_ ?_
        · rintro L A W ⟨v, rfl, hR⟩ hi hw K hK
          have hk : L 5 = false := hR.w5.not (hR.w4.not hi rfl) rfl
          have hk_xB : L 4 = false := hR.w4.not hi rfl
          have hk_xA : L 5 = false := hR.w5.not (hR.w4.not hi rfl) rfl
          have hk_s1 : L 7 = false := hR.w7.not hi rfl
          have e2 := hR.f2 (hw 2 (by simp))
          simp only [e2]
          clear e2
          have hMx := LM.out.on (hR.st hk)
          go_simp
          go_at_call 41
          (with_reducible refine ((clone_row hMx i hlt hn hn13).mono ?_))
          rintro e w2 ⟨g, cp, rfl, hN, hb⟩
          go_simp
          refine hK.out _ _ ?_
          exact ⟨(fun jz => if jz = 16 then .slice (some ⟨Ga i, Oa i, none⟩) (n) (Ka i) else if jz = 17 then .slice (some ⟨g, 0, none⟩) n cp else v jz), rfl, ⟨(fun _ => below_on (hR.st hk) hb), (fun _ _ => ⟨g, cp, rfl, hN.mono (hR.st hk).size⟩), (fun h => absurd (upd_back h rfl) (by simp [hk_xB])), (fun h => absurd (upd_back h rfl) (by simp [hk_xA])), (fun h => absurd (upd_back h rfl) (by simp [hk_s1])), hR.w1.keepM rfl (fun h j hj => upd_on (h j hj)), (fun _ j hj => upd_on (hw j hj)), hR.w4.keepM rfl (fun h j hj => upd_on (h j hj)), hR.w5.keepM rfl (fun h j hj => upd_on (h j hj)), hR.w7.keepM rfl (fun h j hj => upd_on (h j hj)), hR.f0.keep rfl, hR.f1.keep rfl, (fun _ => rfl), hR.f6.keep rfl⟩⟩
        refine EachOf.cons [3] rfl (by kernel_rfl) ?_ ?_
        · rintro L A W ⟨v, rfl, hR⟩ hi hw K hK
          have hk : L 5 = false := hR.w5.not hi rfl
          have hk_xA : L 5 = false := hR.w5.not hi rfl
          have hk_s1 : L 7 = false := hR.w7.not hi rfl
          obtain ⟨g, cp, e17, hN⟩ := hR.xC (hw 3 (by simp)) hk
          simp only [e17]
          clear e17
          go_simp
          refine hK.out _ _ ?_
          exact ⟨(fun jz => if jz = 17 then .slice (some ⟨g, 0, none⟩) n cp else if jz = 18 then .slice (some ⟨W.heap.size, 0, none⟩) 1 1 else v jz), rfl, ⟨(fun _ => (hR.st hk).alloc (hR.st hk).size _), (fun _ _ => ⟨g, cp, rfl, hN.on ((Below.refl _ _).alloc (Nat.le_refl _) _)⟩), (fun _ _ => ⟨g, cp, W.heap.size, rfl, by simp, hN.on ((Below.refl _ _).alloc (Nat.le_refl _) _)⟩), (fun h => absurd (upd_back h rfl) (by simp [hk_xA])), (fun h => absurd (upd_back h rfl) (by simp [hk_s1])), hR.w1.keepM rfl (fun h j hj => upd_on (h j hj)), hR.w3.keepM rfl (fun h j hj => upd_on (h j hj)), (fun _ j hj => upd_on (hw j hj)), hR.w5.keepM rfl (fun h j hj => upd_on (h j hj)), hR.w7.keepM rfl (fun h j hj => upd_on (h j hj)), hR.f0.keep rfl, hR.f1.keep rfl, hR.f2.keep rfl, hR.f6.keep rfl⟩⟩
        refine EachOf.cons [1, 4] rfl (by kernel_rfl) ?_ ?_
        · rintro L A W ⟨v, rfl, hR⟩ hi hw K hK
          have hk : L 5 = false := hi
          have hk_s1 : L 7 = false := hR.w7.not hi rfl
          have e1 := hR.f1 (hw 1 (by simp))
          simp only [e1]
          clear e1
          obtain ⟨g, cp, B, e18, hB, hN⟩ := hR.xB (hw 4 (by simp)) hi
          simp only [e18]
          clear e18
          have hb := hR.st hi
          have ho := own_only LO.out (Only.of_below (S := fun _ => False) hb) (fun _ _ q => q)
          obtain ⟨i0, hi0, hz0, hz1, hz2⟩ := info_parts (show (Try.prog.info? 29).map (fun i => (i.zero, i.size, i.bytes)) = some (some (Value.slice none 0 0), 1, 24) by kernel_rfl)
          simp only [List.getElem_toArray, List.getElem_cons_succ, List.getElem_cons_zero]
          rw [if_pos (show Region.wanted _ _ = true by rfl)]
          refine wp_append_lies W _ _ 22 (by rfl) eb 29 i0 (.slice none 0 0) 1 24 Try.underlying22 hi0 hz0 hz1 hz2 rfl (by decide) (.slice pa i pc) i _ (by rfl) ho ⟨B, 0, none⟩ 1 1 [.slice (some ⟨g, 0, none⟩) n cp] (by rfl) rfl (one_news hB) (by intro u hu; simp at hu; subst hu; rfl) (by omega) (by unfold maxLen; omega) (by omega) (Nat.le_trans LB.out hb.size) _ rfl ?_
          intro h cap w1 hown hgrow hat hlt1
          refine hK.out _ _ ?_
          exact ⟨(fun jz => if jz = 15 then .slice pa i pc else if jz = 18 then .slice (some ⟨B, 0, none⟩) 1 1 else if jz = 19 then .slice (some ⟨h, 0, none⟩) (i + 1) cap else v jz), rfl, ⟨(fun h => by simp [upd_self] at h), (fun _ h => by simp [upd_self] at h), (fun _ h => by simp [upd_self] at h), (fun _ _ => ⟨g, cp, App2.make hb hN LV.out hgrow hown hat hlt1⟩), (fun h => absurd (upd_back h rfl) (by simp [hk_s1])), hR.w1.keepM rfl (fun h j hj => upd_on (h j hj)), hR.w3.keepM rfl (fun h j hj => upd_on (h j hj)), hR.w4.keepM rfl (fun h j hj => upd_on (h j hj)), (fun _ j hj => upd_on (hw j hj)), hR.w7.keepM rfl (fun h j hj => upd_on (h j hj)), hR.f0.keep rfl, (fun _ => rfl), hR.f2.keep rfl, hR.f6.keep rfl⟩⟩
        refine EachOf.cons [] rfl (by kernel_rfl) ?_ ?_
        · rintro L A W ⟨v, rfl, hR⟩ hi hw K hK
          go_simp
          refine hK.out _ _ ?_
          exact ⟨(fun jz => if jz = 20 then .pointer (some ⟨eb, 0, none⟩) else v jz), rfl, ⟨(fun h => hR.st (upd_false h)), hR.xC.keepM rfl (fun h hx => h (upd_false hx)), hR.xB.keepM rfl (fun h hx => h (upd_false hx)), hR.xA.keepM rfl (fun h hx => h (upd_false hx)), hR.s1.keep rfl, hR.w1.keepM rfl (fun h j hj => upd_on (h j hj)), hR.w3.keepM rfl (fun h j hj => upd_on (h j hj)), hR.w4.keepM rfl (fun h j hj => upd_on (h j hj)), hR.w5.keepM rfl (fun h j hj => upd_on (h j hj)), hR.w7.keepM rfl (fun h j hj => upd_on (h j hj)), hR.f0.keep rfl, hR.f1.keep rfl, hR.f2.keep rfl, (fun _ => rfl)⟩⟩
        refine EachOf.cons [0, 1, 2, 3, 4, 5, 6] rfl (by kernel_rfl) ?_ ?_
        · rintro L A W ⟨v, rfl, hR⟩ hi hw K hK
          have e6 := hR.f6 (hw 6 (by simp))
          simp only [e6]
          clear e6
          obtain ⟨g, cp, hA⟩ := hR.xA (hw 5 (by simp)) hi
          obtain ⟨h, cap, hz, _, _⟩ := hA.app.form
          have q1 : W.cell? ⟨eb, 0, none⟩ = some (.slice pa i pc) := (hA.app.only.cell (p := ⟨eb, 0, none⟩) LR.out.2 LN.out).trans LR.out.1
          have q2 : W.frozen? ⟨eb, 0, none⟩ = false := (hA.app.only.frozen (p := ⟨eb, 0, none⟩) LR.out.2 LN.out).trans LF.out
          rw [hz] at hA
          have HA2 := Lib.hid hA
          clear hA
          simp only [hz]
          clear hz
          go_simp
          refine hK.out _ _ ?_
          exact ⟨(fun jz => if jz = 20 then .pointer (some ⟨eb, 0, none⟩) else if jz = 19 then .slice (some ⟨h, 0, none⟩) (i + 1) cap else v jz), rfl, ⟨(fun h => absurd (hw 5 (by simp)) (by simp [upd_false h])), (fun _ h => absurd (hw 5 (by simp)) (by simp [upd_false h])), (fun _ h => absurd (hw 5 (by simp)) (by simp [upd_false h])), (fun _ h => by simp [upd_self] at h), (fun _ => ⟨W, _, g, cp, HA2.out, rfl⟩), hR.w1.keepM rfl (fun h j hj => upd_on (h j hj)), hR.w3.keepM rfl (fun h j hj => upd_on (h j hj)), hR.w4.keepM rfl (fun h j hj => upd_on (h j hj)), hR.w5.keepM rfl (fun h j hj => upd_on (h j hj)), (fun _ j hj => upd_on (hw j hj)), hR.f0.keep rfl, hR.f1.keep rfl, hR.f2.keep rfl, (fun _ => rfl)⟩⟩
        exact EachOf.nil
      rintro L A W ⟨v, rfl, hR⟩ hL
      obtain ⟨W4, y, g, cp, hA, hW⟩ := hR.s1 (hL 7 (by simp))
      have T1 := S.out.1.push hA
      rw [← hW] at T1
      have hrl : rb < W1.heap.size := S.out.2.hb
      have T2 : EBlk W rb (.slice none 0 0) (.slice none 0 0) (.int .i64 0) := by
        rw [hW]
        exact (S.out.2.only hA.app.only (fun e => by have := (LO.out.lt rb e).1; have := HE.out.1; have := HE.out.2; omega)).far (c := eb) (fun e => by have := HE.out.1; have := HE.out.2; omega)
      have T3 : Below w.heap.size w W := by
        rw [hW]
        exact ((HB.out.trans (hA.app.only.below HB.out.size (fun q hq => by have := (LO.out.lt q hq).1; have := HE.out.2; omega)))).setCell (by have := HE.out.2; show w.heap.size ≤ eb; omega) _
      have HT3 := Lib.hid T3
      have HT := Lib.hid (And.intro T1 T2)
      clear T1 T2 T3 hW hA hR hL LM LR LF LN LO LB LV S HB hrl
      go_wp2_with fail
      go_roundg (R - (i + 1))
      case measure => omega
      case rel => exact ⟨i + 1, rfl, rfl, by omega, HT3, _, _, _, HT⟩
    · have e : i = R := by omega
      subst e
      obtain ⟨b, Cb, hest⟩ := S.out.1.est hR0 (fun _ => 0)
      have HR := Lib.hid S.out.2
      have HQ := Lib.hid hest
      have HBW := Lib.hid HB.out
      have S1 : Hid (ESt eb W1 eb b i n Cb G C M (.slice none 0 0) 0 (fun _ => 0) 1 ∧ EInv i n m M M 0 0 (fun _ => 0) M 1) := ⟨HQ.out, HS.out⟩
      clear hest S HQ HB
      have p1 := (HM.out.on HBW.out).top 0 hR0
      rw [Nat.add_zero] at p1
      go_wp2_with fail
      clear p1
      go_loopg [26] n (fun g s26 wx => ∃ c : Nat, s26 = .int .i64 c ∧ g = n - c ∧ c ≤ n ∧ Hid (Below w.heap.size w wx) ∧ Hid (EBlk wx rb (.slice none 0 0) (.slice none 0 0) (.int .i64 0)) ∧ ∃ G C U E pv k p D, Hid (ESt eb wx eb b i n Cb G C E pv k p D ∧ EInv i n m M U k c p E D))
      case atStart => exact ⟨0, rfl, rfl, Nat.zero_le _, HBW, HR, _, _, _, _, _, _, _, _, S1⟩
      case round =>
        clear S1 HBW HR
        obtain ⟨c, rfl, rfl, hc, HB, HR, G, C, U, E, pv, k, p, D, S⟩ := hrel
        rename World => W2
        by_cases hltc : c < n
        · have wk : IntKind.i64.wrap ((c : Int) + 1) = ((c + 1 : Nat) : Int) := by rw [IntWalk.i64_in _ (by omega)]; omega
          have CS := Lib.hid (simplify_any eb eb b i n m Cb k c G C M U E pv p D W2 (Nat.le_of_lt S.out.1.e.hb) S.out.1 S.out.2 hltc hn13 hR13)
          go_wp2_with fail
          (with_reducible refine ((CS.out).mono ?_))
          rintro e w3 ⟨rfl, hb3, G3, C3, U3, E3, pv3, k3, p3, D3, h31, h32⟩
          have T1 : Hid (Below w.heap.size w w3) := HB.out.trans (hb3.mono (by have := HE.out.2; omega))
          have T2 : Hid (EBlk w3 rb (.slice none 0 0) (.slice none 0 0) (.int .i64 0)) := HR.out.lo hb3 (by have := HE.out.1; have := HE.out.2; omega)
          have T3 := Lib.hid (And.intro h31 h32)
          clear h31 h32 hb3 CS S HB HR
          go_wp2_with fail
          go_roundg (n - (c + 1))
          case measure => omega
          case rel => exact ⟨c + 1, rfl, rfl, by omega, T1, T2, _, _, _, _, _, _, _, _, T3⟩
        · have e : c = n := by omega
          subst e
          have q0 := S.out.1.e.c0
          have q1 := S.out.1.e.c1
          have q2 := S.out.1.e.c2
          have r0 := HR.out.c0
          have r1 := HR.out.c1
          have r2 := HR.out.c2
          have s0 := HR.out.f0
          have s1 := HR.out.f1
          have s2 := HR.out.f2
          obtain ⟨pa, pc, hpv⟩ := own_form S.out.1.o
          subst hpv
          go_wp2_with fail
          obtain ⟨W3, hW3⟩ : ∃ W, W = ((W2.setCell ⟨rb, 0, none⟩ (.slice (some ⟨b, 0, none⟩) i Cb)).setCell ⟨rb, 1, none⟩ (.slice pa k pc)).setCell ⟨rb, 2, none⟩ (.int .i64 D) := ⟨_, rfl⟩
          have E3 := ((HR.out.set0 (.slice (some ⟨b, 0, none⟩) i Cb)).set1 (.slice pa k pc)).set2 (.int .i64 D)
          have O3 : Only (fun q => q = rb) W2 W3 := by
            rw [hW3]
            exact (((Only.refl (fun q => q = rb) W2).setCell ⟨rb, 0, none⟩ rfl _).setCell ⟨rb, 1, none⟩ rfl _).setCell ⟨rb, 2, none⟩ rfl _
          rw [← hW3] at E3
          rw [← hW3]
          have HO := Lib.hid O3
          clear hW3 O3 q0 q1 q2 r0 r1 r2 s0 s1 s2
          have x0 := E3.c0
          have x1 := E3.c1
          have x2 := E3.c2
          clear E3
          (try simp only [Exit.inBlock, Exit.then])
          refine bodyPost_ret (by simp [results, Try.results44, x0, x1, x2, go_sem]; rfl) rfl ?_
          have hre : rb < eb := by have := HE.out.1; have := HE.out.2; omega
          have hwe : w.heap.size ≤ eb := by have := HE.out.2; omega
          refine ⟨HB.out.trans (HO.out.below HB.out.size (fun q hq => by have := HE.out.1; omega)), b, Cb, G, C, U, E, _, k, p, D, rfl, S.out.1.cb, ((S.out.1.g.only HO.out (fun e => by have := S.out.1.g.lb; omega) (fun l hl e => by have := (S.out.1.g.row l hl).1; omega)).mono hwe), own_base (own_only S.out.1.o HO.out (fun q hq e => by have := (S.out.1.o.lt q hq).1; omega)) hwe, S.out.2⟩

end Go.Proofs.Ytjggnmbdgagkoaa
