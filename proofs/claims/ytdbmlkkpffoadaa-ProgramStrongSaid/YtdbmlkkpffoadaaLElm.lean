/- Layer 4: the elimination of a matrix. -/
import Derived.Test.YtdbmlkkpffoadaaLSimp
namespace Go.Proofs.Ytdbmlkkpffoadaa
set_option linter.unusedVariables false
open Go.RowKit Go.Shelf

/-- A matrix in memory that is read alone. -/
structure Mat (W : World) (mb mo R n : Nat) (Ga Oa Ka : Nat → Nat) (M : Nat → Nat → Int) : Prop where
  hb : mb < W.heap.size
  top : ∀ i, i < R → W.cell? ⟨mb, mo + i, none⟩ = some (.slice (some ⟨Ga i, Oa i, none⟩) n (Ka i))
  row : ∀ i, i < R → Ga i < W.heap.size
  cell : ∀ i j, i < R → j < n → W.cell? ⟨Ga i, Oa i + j, none⟩ = some (.int .i64 (M i j))
theorem Mat.on {W W2 : World} {mb mo R n : Nat} {Ga Oa Ka : Nat → Nat} {M : Nat → Nat → Int} (h : Mat W mb mo R n Ga Oa Ka M) (hb : Below W.heap.size W W2) : Mat W2 mb mo R n Ga Oa Ka M where
  hb := Nat.lt_of_lt_of_le h.hb hb.size
  top i hi := (hb.cell (p := ⟨mb, mo + i, none⟩) h.hb).trans (h.top i hi)
  row i hi := Nat.lt_of_lt_of_le (h.row i hi) hb.size
  cell i j hi hj := (hb.cell (p := ⟨Ga i, Oa i + j, none⟩) (h.row i hi)).trans (h.cell i j hi hj)

/-- A row of integers in a block of its own. -/
structure NRow (lo n : Nat) (W : World) (g cp : Nat) (f : Nat → Int) : Prop where
  lo : lo ≤ g
  hb : g < W.heap.size
  cap : n ≤ cp
  cell : ∀ j, j < n → W.cell? ⟨g, j, none⟩ = some (.int .i64 (f j))
  fz : ∀ j, j < n → W.frozen? ⟨g, j, none⟩ = false
theorem NRow.on {lo n : Nat} {W W2 : World} {g cp : Nat} {f : Nat → Int} (h : NRow lo n W g cp f) (hb : Below W.heap.size W W2) : NRow lo n W2 g cp f :=
  ⟨h.lo, Nat.lt_of_lt_of_le h.hb hb.size, h.cap, fun j hj => (hb.cell (p := ⟨g, j, none⟩) h.hb).trans (h.cell j hj), fun j hj => (hb.frozen (p := ⟨g, j, none⟩) h.hb).trans (h.fz j hj)⟩
theorem NRow.only {S : Nat → Prop} {lo n : Nat} {W W2 : World} {g cp : Nat} {f : Nat → Int} (h : NRow lo n W g cp f) (hb : Only S W W2) (hn : ¬ S g) : NRow lo n W2 g cp f :=
  ⟨h.lo, Nat.lt_of_lt_of_le h.hb hb.size, h.cap, fun j hj => (hb.cell (p := ⟨g, j, none⟩) h.hb hn).trans (h.cell j hj), fun j hj => (hb.frozen (p := ⟨g, j, none⟩) h.hb hn).trans (h.fz j hj)⟩
theorem NRow.mono {lo lo2 n : Nat} {W : World} {g cp : Nat} {f : Nat → Int} (h : NRow lo n W g cp f) (hl : lo2 ≤ lo) : NRow lo2 n W g cp f := ⟨Nat.le_trans hl h.lo, h.hb, h.cap, h.cell, h.fz⟩

theorem own_nrow {W : World} {base n : Nat} {v : Value} {f : Nat → Int} (h : W.ownsRow base 3 1 v n ((List.range n).map fun j => Value.int .i64 (f j))) (hn : 0 < n) : ∃ g cp, v = .slice (some ⟨g, 0, none⟩) n cp ∧ NRow base n W g cp f := by
  have h2 := h
  rcases h.2 with ⟨_, h0⟩ | ⟨g, cap, cur, hv, hb, hg, hc, _⟩
  · omega
  · refine ⟨g, cap, hv, hb, (Array.getElem?_eq_some_iff.1 hg).1, hc, fun j hj => ?_, fun j hj => own_frozen h2 (by rw [hv]; rfl) j⟩
    have := h2.cells (g := g) (by rw [hv]; rfl) j (.int .i64 (f j)) (by simp [hj])
    rwa [show (⟨g, 0, none⟩ : Addr).add j = ⟨g, j, none⟩ by unfold Addr.add; split <;> simp_all] at this

theorem clone_row {W : World} {mb mo R n : Nat} {Ga Oa Ka : Nat → Nat} {M : Nat → Nat → Int} (h : Mat W mb mo R n Ga Oa Ka M) (i : Nat) (hi : i < R) (hn : 0 < n) (hn13 : n ≤ 13) :
    Calls Try.prog 19 #[.slice (some ⟨Ga i, Oa i, none⟩) n (Ka i)] W fun e w' => ∃ g cp, e = .returned (.slice (some ⟨g, 0, none⟩) n cp) ∧ NRow W.heap.size n w' g cp (M i) ∧ Below W.heap.size W w' := by
  refine (Try.slices_Clone_int (Ga i) (Oa i) n (Ka i) ((List.range n).map (M i)) W (by simp) (by omega) (fun j hj => ?_)).mono ?_
  · have hj' : j < n := by simpa using hj
    rw [h.cell i j hi hj']
    simp [List.getD, hj']
  · rintro e w' ⟨v, rfl, ho, _, hb⟩
    have e1 : (((List.range n).map (M i)).take n).map (Value.int .i64) = (List.range n).map fun j => Value.int .i64 (M i j) := by
      rw [List.take_of_length_le (by simp), List.map_map]; rfl
    rw [e1] at ho
    obtain ⟨g, cp, rfl, hN⟩ := own_nrow ho hn
    exact ⟨g, cp, rfl, hN, hb⟩

theorem EBlk.lo {B : Nat} {W W2 : World} {b : Nat} {v0 v1 v2 : Value} (h : EBlk W b v0 v1 v2) (hb : Below B W W2) (hl : b < B) : EBlk W2 b v0 v1 v2 :=
  ⟨Nat.lt_of_lt_of_le h.hb hb.size, (hb.cell (p := ⟨b, 0, none⟩) hl).trans h.c0, (hb.cell (p := ⟨b, 1, none⟩) hl).trans h.c1, (hb.cell (p := ⟨b, 2, none⟩) hl).trans h.c2,
   (hb.frozen (p := ⟨b, 0, none⟩) hl).trans h.f0, (hb.frozen (p := ⟨b, 1, none⟩) hl).trans h.f1, (hb.frozen (p := ⟨b, 2, none⟩) hl).trans h.f2⟩
theorem own_base {W : World} {base base2 : Nat} {t : TypeId} {size k : Nat} {v : Value} {xs : List Value} (h : W.ownsRow base t size v k xs) (hb : base2 ≤ base) : W.ownsRow base2 t size v k xs := by
  refine ⟨h.1, ?_⟩
  rcases h.2 with h2 | ⟨g, cap, cur, hv, hg, r⟩
  · exact .inl h2
  · exact .inr ⟨g, cap, cur, hv, Nat.le_trans hb hg, r⟩
theorem Grid.mono {B0 B1 : Nat} {W : World} {b R n : Nat} {G C : Nat → Nat} {E : Nat → Nat → Int} (h : Grid B0 W b R n G C E) (hl : B1 ≤ B0) : Grid B1 W b R n G C E :=
  ⟨Nat.le_trans hl h.lb, h.hb, h.top, h.tfz, fun i hi => ⟨Nat.le_trans hl (h.row i hi).1, (h.row i hi).2⟩, h.cap, h.inj, h.cell, h.fz⟩

/-- An own list of rows with one row more. -/
structure App2 (Wc W : World) (eb n i : Nat) (rv : Value) (old : List Value) (f : Nat → Int) (y : Value) (g cp : Nat) : Prop where
  row : NRow Wc.heap.size n W g cp f
  app : AppW Wc W eb 22 rv i (old ++ [.slice (some ⟨g, 0, none⟩) n cp]) y
  ne : y.ownBlock ≠ some g
theorem App2.make {Wc W W2 : World} {eb n i : Nat} {rv : Value} {old : List Value} {f : Nat → Int} {g cp h cap : Nat} (hb : Below Wc.heap.size Wc W) (hr : NRow Wc.heap.size n W g cp f) (hrv : ∀ q, rv.ownBlock = some q → q < Wc.heap.size) (hg : W.grownBy W2 rv.ownBlock) (ho : W2.ownsRow eb 22 1 (.slice (some ⟨h, 0, none⟩) (i + 1) cap) (i + 1) (old ++ [.slice (some ⟨g, 0, none⟩) n cp])) (ha : rv.ownBlock = some h ∨ h = W.heap.size) (hl : h < W2.heap.size) :
    App2 Wc W2 eb n i rv old f (.slice (some ⟨h, 0, none⟩) (i + 1) cap) g cp := by
  have n1 : ¬ (rv.ownBlock = some g) := fun e => by have := hrv g e; have := hr.lo; omega
  refine ⟨hr.only (S := fun q => rv.ownBlock = some q) ⟨hg.os, hg.tape, hg.output, hg.size, fun c hc hn => hg.block c hc (fun e => hn e.symm)⟩ n1, AppW.make hb hg ho ha hl, fun e => ?_⟩
  have e2 : h = g := by simpa [Value.ownBlock] using e
  subst e2
  rcases ha with ha | ha
  · exact n1 ha
  · have := hr.hb; omega

def updN (G : Nat → Nat) (i g : Nat) : Nat → Nat := fun l => if l = i then g else G l

/-- The rows while they are copied. -/
structure Grow (W : World) (eb n i : Nat) (G C : Nat → Nat) (M : Nat → Nat → Int) (rv : Value) : Prop where
  e : EBlk W eb rv (.slice none 0 0) (.int .i64 1)
  own : W.ownsRow eb 22 1 rv i ((List.range i).map fun l => Value.slice (some ⟨G l, 0, none⟩) n (C l))
  row : ∀ l, l < i → eb < G l ∧ G l < W.heap.size ∧ rv.ownBlock ≠ some (G l)
  rn : rv.ownBlock ≠ some eb
  cap : ∀ l, l < i → n ≤ C l
  inj : ∀ l k, l < i → k < i → G l = G k → l = k
  cell : ∀ l j, l < i → j < n → W.cell? ⟨G l, j, none⟩ = some (.int .i64 (M l j))
  fz : ∀ l j, l < i → j < n → W.frozen? ⟨G l, j, none⟩ = false
theorem row_list (n i g cp : Nat) (G C : Nat → Nat) : ((List.range (i + 1)).map fun l => Value.slice (some ⟨updN G i g l, 0, none⟩) n (updN C i cp l)) = ((List.range i).map fun l => Value.slice (some ⟨G l, 0, none⟩) n (C l)) ++ [Value.slice (some ⟨g, 0, none⟩) n cp] := by
  rw [List.range_succ, List.map_append]
  congr 1
  · apply List.map_congr_left
    intro l hl
    have : l < i := by simpa using hl
    unfold updN
    rw [if_neg (by omega), if_neg (by omega)]
  · simp [updN]
theorem Grow.push {W W2 : World} {eb n i : Nat} {G C : Nat → Nat} {M : Nat → Nat → Int} {rv y : Value} {g cp : Nat} (h : Grow W eb n i G C M rv)
    (a : App2 W W2 eb n i rv ((List.range i).map fun l => Value.slice (some ⟨G l, 0, none⟩) n (C l)) (M i) y g cp) :
    Grow (W2.setCell ⟨eb, 0, none⟩ y) eb n (i + 1) (updN G i g) (updN C i cp) M y := by
  have n1 : ¬ (rv.ownBlock = some eb) := h.rn
  have n3 : ∀ l, l < i → ¬ (rv.ownBlock = some (G l)) := fun l hl => (h.row l hl).2.2
  obtain ⟨q, cap, hz, hq, hlq⟩ := a.app.form
  have gz : ∀ x, y.ownBlock = some x → x = q := fun x hx => by rw [hz] at hx; simp [Value.ownBlock] at hx; exact hx.symm
  have q1 : q ≠ eb := fun e => by
    subst e
    rcases hq with hq | hq
    · exact n1 hq
    · have := h.e.hb; omega
  have q3 : ∀ l, l < i → G l ≠ q := fun l hl e => by
    subst e
    rcases hq with hq | hq
    · exact n3 l hl hq
    · have := (h.row l hl).2.1; omega
  have q4 : y.ownBlock = some q := by rw [hz]; rfl
  have q5 : g ≠ q := fun e => a.ne (by rw [q4, e])
  have g1 : eb < g := by have := h.e.hb; have := a.row.lo; omega
  have o2 := only_set W2 ⟨eb, 0, none⟩ y
  have oo : Only (fun x => rv.ownBlock = some x ∨ x = eb) W (W2.setCell ⟨eb, 0, none⟩ y) := (a.app.only.mono (fun c h => .inl h)).trans (o2.mono (fun c h => .inr h))
  have row := a.row.only o2 (fun e => by have e2 : g = eb := e; omega)
  have pick : ∀ l, l < i + 1 → (l = i ∧ updN G i g l = g ∧ updN C i cp l = cp) ∨ (l < i ∧ updN G i g l = G l ∧ updN C i cp l = C l) := fun l hl => by
    unfold updN
    by_cases e : l = i
    · exact .inl ⟨e, if_pos e, if_pos e⟩
    · exact .inr ⟨by omega, if_neg e, if_neg e⟩
  refine ⟨(h.e.only a.app.only n1).set0 y, ?_, fun l hl => ?_, fun e => q1 (gz eb e).symm, fun l hl => ?_, fun l k hl hk e => ?_, fun l j hl hj => ?_, fun l j hl hj => ?_⟩
  · rw [row_list]
    exact own_only a.app.own o2 (fun x hx e => q1 (by rw [← gz x hx]; exact e))
  · rcases pick l hl with ⟨_, e1, _⟩ | ⟨h1, e1, _⟩
    · rw [e1]; exact ⟨g1, by simpa using a.row.hb, fun e => q5 (gz g e)⟩
    · rw [e1]; exact ⟨(h.row l h1).1, Nat.lt_of_lt_of_le (h.row l h1).2.1 oo.size, fun e => q3 l h1 (gz _ e)⟩
  · rcases pick l hl with ⟨_, _, e1⟩ | ⟨h1, _, e1⟩
    · rw [e1]; exact a.row.cap
    · rw [e1]; exact h.cap l h1
  · have lo := a.row.lo
    rcases pick l hl with ⟨e0, e1, _⟩ | ⟨h1, e1, _⟩ <;> rcases pick k hk with ⟨f0, f1, _⟩ | ⟨k1, f1, _⟩ <;> rw [e1, f1] at e
    · omega
    · have := (h.row k k1).2.1; omega
    · have := (h.row l h1).2.1; omega
    · exact h.inj l k h1 k1 e
  · rcases pick l hl with ⟨e0, e1, _⟩ | ⟨h1, e1, _⟩
    · rw [e1, e0]; exact row.cell j hj
    · rw [e1, oo.cell (p := ⟨G l, j, none⟩) (h.row l h1).2.1 (fun e => by
        rcases e with e | e
        · exact n3 l h1 e
        · have e2 : G l = eb := e
          have := (h.row l h1).1; omega)]
      exact h.cell l j h1 hj
  · rcases pick l hl with ⟨e0, e1, _⟩ | ⟨h1, e1, _⟩
    · rw [e1]; exact row.fz j hj
    · rw [e1, oo.frozen (p := ⟨G l, j, none⟩) (h.row l h1).2.1 (fun e => by
        rcases e with e | e
        · exact n3 l h1 e
        · have e2 : G l = eb := e
          have := (h.row l h1).1; omega)]
      exact h.fz l j h1 hj
theorem Grow.est {W : World} {eb n R : Nat} {G C : Nat → Nat} {M : Nat → Nat → Int} {rv : Value} (h : Grow W eb n R G C M rv) (hR : 0 < R) (p : Nat → Nat) : ∃ b Cb, ESt eb W eb b R n Cb G C M (.slice none 0 0) 0 p 1 := by
  have ho := h.own
  rcases h.own.2 with ⟨_, h0⟩ | ⟨b, Cb, cur, hv, hb, hg, hc, _⟩
  · omega
  · have rb : rv.ownBlock = some b := by rw [hv]; rfl
    refine ⟨b, Cb, ⟨by rw [← hv]; exact h.e, ⟨hb, (Array.getElem?_eq_some_iff.1 hg).1, fun i hi => ?_, fun i hi => own_frozen ho rb i, fun i hi => ⟨by have := (h.row i hi).1; omega, (h.row i hi).2.1, fun e => (h.row i hi).2.2 (by rw [rb, e])⟩, h.cap, h.inj, h.cell, h.fz⟩, World.ownsRow_nil _ _ _ _, fun e => h.rn (by rw [rb, e]), fun i hi e => by have := (h.row i hi).1; omega, fun q hq => (by cases hq), Nat.le_refl _, hc⟩⟩
    have := ho.cells rb i (.slice (some ⟨G i, 0, none⟩) n (C i)) (by simp [hi])
    rwa [show (⟨b, 0, none⟩ : Addr).add i = ⟨b, i, none⟩ by unfold Addr.add; split <;> simp_all] at this

structure ElmR (eb n i pc : Nat) (Ga Oa Ka : Nat → Nat) (pa : Option Addr) (G C : Nat → Nat) (M : Nat → Nat → Int) (Wc : World) (L : Nat → Bool) (v : Nat → Value) (W : World) : Prop where
  st : L 5 = false → Below Wc.heap.size Wc W
  xC : Had L 3 (L 5 = false → ∃ g cp, v 17 = .slice (some ⟨g, 0, none⟩) n cp ∧ NRow Wc.heap.size n W g cp (M i))
  xB : Had L 4 (L 5 = false → ∃ g cp B, v 18 = .slice (some ⟨B, 0, none⟩) 1 1 ∧ W.cell? ⟨B, 0, none⟩ = some (.slice (some ⟨g, 0, none⟩) n cp) ∧ NRow Wc.heap.size n W g cp (M i))
  xA : Had L 5 (L 7 = false → ∃ g cp, App2 Wc W eb n i (.slice pa i pc) ((List.range i).map fun l => Value.slice (some ⟨G l, 0, none⟩) n (C l)) (M i) (v 19) g cp)
  s1 : Had L 7 (∃ W2 y g cp, App2 Wc W2 eb n i (.slice pa i pc) ((List.range i).map fun l => Value.slice (some ⟨G l, 0, none⟩) n (C l)) (M i) y g cp ∧ W = W2.setCell ⟨eb, 0, none⟩ y)
  w1 : Had L 1 (∀ j ∈ [0], L j = true)
  w3 : Had L 3 (∀ j ∈ [2], L j = true)
  w4 : Had L 4 (∀ j ∈ [3], L j = true)
  w5 : Had L 5 (∀ j ∈ [1, 4], L j = true)
  w7 : Had L 7 (∀ j ∈ [0, 1, 2, 3, 4, 5, 6], L j = true)
  f0 : Had L 0 (v 14 = .pointer (some ⟨eb, 0, none⟩))
  f1 : Had L 1 (v 15 = .slice pa i pc)
  f2 : Had L 2 (v 16 = .slice (some ⟨Ga i, Oa i, none⟩) (n) (Ka i))
  f6 : Had L 6 (v 20 = .pointer (some ⟨eb, 0, none⟩))

end Go.Proofs.Ytdbmlkkpffoadaa
