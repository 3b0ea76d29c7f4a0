/- Layer 4: how the elimination lies in memory. Layer 4: products of two words, and the step of an elimination without fractions. Layer 4: the first row ahead whose number in a column is not zero. Layer 4: an append onto a row of the elimination's own, and what it leaves. -/
import Derived.Test.YtggpdhdbeokkcaaGreatLM
import Derived.Test.YtggpdhdbeokkcaaGreatRLawMath
import Derived.Laws.AppendOwn
import Derived.Test.YtggpdhdbeokkcaaGreatRProd
import Derived.Test.YtggpdhdbeokkcaaGreatRDiv2
import Derived.Test.YtggpdhdbeokkcaaGreatShelf
import Derived.Deep.AppendLies
namespace Go.Proofs.YtggpdhdbeokkcaaGreat
set_option linter.unusedVariables false
open Go.RowKit Go.Shelf

/-- Of the old blocks only those of S have changed. -/
structure Only (S : Nat → Prop) (W W' : World) : Prop where
 os : W'.os = W.os
 tape : W'.tape = W.tape
 output : W'.output = W.output
 size : W.heap.size ≤ W'.heap.size
 block : ∀ c, c < W.heap.size → ¬ S c → W'.heap[c]? = W.heap[c]?
theorem Only.refl (S : Nat → Prop) (W : World) : Only S W W := ⟨rfl, rfl, rfl, Nat.le_refl _, fun _ _ _ => rfl⟩
theorem Only.trans {S : Nat → Prop} {a b c : World} (h : Only S a b) (k : Only S b c) : Only S a c :=
 ⟨k.os.trans h.os, k.tape.trans h.tape, k.output.trans h.output, Nat.le_trans h.size k.size, fun x hx hn => (k.block x (Nat.lt_of_lt_of_le hx h.size) hn).trans (h.block x hx hn)⟩
theorem Only.of_below {S : Nat → Prop} {W W' : World} (h : Below W.heap.size W W') : Only S W W' := ⟨h.os, h.tape, h.output, h.size, fun c hc _ => h.block c hc⟩
theorem Only.below {S : Nat → Prop} {W W' : World} (h : Only S W W') {B : Nat} (hB : B ≤ W.heap.size) (hs : ∀ c, S c → B ≤ c) : Below B W W' := ⟨h.os, h.tape, h.output, h.size, fun c hc => h.block c (Nat.lt_of_lt_of_le hc hB) fun k => by have := hs c k; omega⟩
theorem Only.setCell {S : Nat → Prop} {W W' : World} (h : Only S W W') (p : Addr) (hp : S p.block) (v : Value) : Only S W (W'.setCell p v) := by
 refine h.trans ⟨rfl, rfl, rfl, by simp, fun c hc hn => ?_⟩
 exact Below.heap_setCell W' p v c (fun e => hn (by rw [e]; exact hp))
theorem Only.cell {S : Nat → Prop} {W W' : World} (h : Only S W W') {p : Addr} (hp : p.block < W.heap.size) (hn : ¬ S p.block) : W'.cell? p = W.cell? p := World.cell?_of_block (w := W) (h.block p.block hp hn)
theorem Only.frozen {S : Nat → Prop} {W W' : World} (h : Only S W W') {p : Addr} (hp : p.block < W.heap.size) (hn : ¬ S p.block) : W'.frozen? p = W.frozen? p := World.frozen?_of_block (w := W) (h.block p.block hp hn)

theorem adr_ne {b i j : Nat} (h : i ≠ j) : (⟨b, i, none⟩ : Addr) ≠ ⟨b, j, none⟩ := by
 intro e
 injection e with e1 e2 e3
 exact h e2

/-- A list of rows of integers, each in a block of its own. -/
structure Grid (B0 : Nat) (W : World) (b R n : Nat) (G C : Nat → Nat) (E : Nat → Nat → Int) : Prop where
 lb : B0 ≤ b
 hb : b < W.heap.size
 top : ∀ i, i < R → W.cell? ⟨b, i, none⟩ = some (.slice (some ⟨G i, 0, none⟩) n (C i))
 tfz : ∀ i, i < R → W.frozen? ⟨b, i, none⟩ = false
 row : ∀ i, i < R → B0 ≤ G i ∧ G i < W.heap.size ∧ G i ≠ b
 cap : ∀ i, i < R → n ≤ C i
 inj : ∀ i k, i < R → k < R → G i = G k → i = k
 cell : ∀ i j, i < R → j < n → W.cell? ⟨G i, j, none⟩ = some (.int .i64 (E i j))
 fz : ∀ i j, i < R → j < n → W.frozen? ⟨G i, j, none⟩ = false
theorem Grid.on {B0 : Nat} {W W2 : World} {b R n : Nat} {G C : Nat → Nat} {E : Nat → Nat → Int} (h : Grid B0 W b R n G C E) (hb : Below W.heap.size W W2) : Grid B0 W2 b R n G C E where
 lb := h.lb
 hb := Nat.lt_of_lt_of_le h.hb hb.size
 top i hi := (hb.cell (p := ⟨b, i, none⟩) h.hb).trans (h.top i hi)
 tfz i hi := (hb.frozen (p := ⟨b, i, none⟩) h.hb).trans (h.tfz i hi)
 row i hi := ⟨(h.row i hi).1, Nat.lt_of_lt_of_le (h.row i hi).2.1 hb.size, (h.row i hi).2.2⟩
 cap := h.cap
 inj := h.inj
 cell i j hi hj := (hb.cell (p := ⟨G i, j, none⟩) (h.row i hi).2.1).trans (h.cell i j hi hj)
 fz i j hi hj := (hb.frozen (p := ⟨G i, j, none⟩) (h.row i hi).2.1).trans (h.fz i j hi hj)
theorem Grid.only {S : Nat → Prop} {B0 : Nat} {W W2 : World} {b R n : Nat} {G C : Nat → Nat} {E : Nat → Nat → Int} (h : Grid B0 W b R n G C E) (hb : Only S W W2) (nb : ¬ S b) (nr : ∀ i, i < R → ¬ S (G i)) : Grid B0 W2 b R n G C E where
 lb := h.lb
 hb := Nat.lt_of_lt_of_le h.hb hb.size
 top i hi := (hb.cell (p := ⟨b, i, none⟩) h.hb nb).trans (h.top i hi)
 tfz i hi := (hb.frozen (p := ⟨b, i, none⟩) h.hb nb).trans (h.tfz i hi)
 row i hi := ⟨(h.row i hi).1, Nat.lt_of_lt_of_le (h.row i hi).2.1 hb.size, (h.row i hi).2.2⟩
 cap := h.cap
 inj := h.inj
 cell i j hi hj := (hb.cell (p := ⟨G i, j, none⟩) (h.row i hi).2.1 (nr i hi)).trans (h.cell i j hi hj)
 fz i j hi hj := (hb.frozen (p := ⟨G i, j, none⟩) (h.row i hi).2.1 (nr i hi)).trans (h.fz i j hi hj)
def setE (E : Nat → Nat → Int) (i0 j0 : Nat) (v : Int) : Nat → Nat → Int := fun i j => if i = i0 ∧ j = j0 then v else E i j
theorem Grid.set {B0 : Nat} {W : World} {b R n : Nat} {G C : Nat → Nat} {E : Nat → Nat → Int} (h : Grid B0 W b R n G C E) (i0 j0 : Nat) (hi0 : i0 < R) (hj0 : j0 < n) (v : Int) : Grid B0 (W.setCell ⟨G i0, j0, none⟩ (.int .i64 v)) b R n G C (setE E i0 j0 v) where
 lb := h.lb
 hb := by simpa using h.hb
 top i hi := by rw [World.cell?_setCell_far _ _ _ _ (h.row i0 hi0).2.2]; exact h.top i hi
 tfz i hi := by simpa using h.tfz i hi
 row i hi := by simpa using h.row i hi
 cap := h.cap
 inj := h.inj
 cell i j hi hj := by
  unfold setE
  by_cases e : i = i0 ∧ j = j0
  ·obtain ⟨rfl, rfl⟩ := e
   rw [if_pos ⟨rfl, rfl⟩]
   exact World.cell?_setCell_same' _ _ _ (by rw [h.cell i j hi hj]; rfl)
  ·rw [if_neg e]
   by_cases e2 : i = i0
   ·subst e2
    rw [World.cell?_setCell_other _ _ _ _ (adr_ne (b := G i) (i := j0) (j := j) (fun q => e ⟨rfl, q.symm⟩))]
    exact h.cell i j hi hj
   ·rw [World.cell?_setCell_far _ _ _ _ (fun k => e2 (h.inj i0 i hi0 hi k).symm)]
    exact h.cell i j hi hj
 fz i j hi hj := by simpa using h.fz i j hi hj
theorem Grid.congr {B0 : Nat} {W : World} {b R n : Nat} {G C : Nat → Nat} {E F : Nat → Nat → Int} (h : Grid B0 W b R n G C E) (e : ∀ i j, i < R → j < n → F i j = E i j) : Grid B0 W b R n G C F where
 lb := h.lb
 hb := h.hb
 top := h.top
 tfz := h.tfz
 row := h.row
 cap := h.cap
 inj := h.inj
 cell i j hi hj := by rw [e i j hi hj]; exact h.cell i j hi hj
 fz := h.fz
/-- The elimination's own block: its rows, its pivots, its last pivot. -/
structure EBlk (W : World) (b : Nat) (v0 v1 v2 : Value) : Prop where
 hb : b < W.heap.size
 c0 : W.cell? ⟨b, 0, none⟩ = some v0
 c1 : W.cell? ⟨b, 1, none⟩ = some v1
 c2 : W.cell? ⟨b, 2, none⟩ = some v2
 f0 : W.frozen? ⟨b, 0, none⟩ = false
 f1 : W.frozen? ⟨b, 1, none⟩ = false
 f2 : W.frozen? ⟨b, 2, none⟩ = false
theorem EBlk.on {W W2 : World} {b : Nat} {v0 v1 v2 : Value} (h : EBlk W b v0 v1 v2) (hb : Below W.heap.size W W2) : EBlk W2 b v0 v1 v2 :=
 ⟨Nat.lt_of_lt_of_le h.hb hb.size, (hb.cell (p := ⟨b, 0, none⟩) h.hb).trans h.c0, (hb.cell (p := ⟨b, 1, none⟩) h.hb).trans h.c1, (hb.cell (p := ⟨b, 2, none⟩) h.hb).trans h.c2,
  (hb.frozen (p := ⟨b, 0, none⟩) h.hb).trans h.f0, (hb.frozen (p := ⟨b, 1, none⟩) h.hb).trans h.f1, (hb.frozen (p := ⟨b, 2, none⟩) h.hb).trans h.f2⟩
theorem EBlk.only {S : Nat → Prop} {W W2 : World} {b : Nat} {v0 v1 v2 : Value} (h : EBlk W b v0 v1 v2) (hb : Only S W W2) (hn : ¬ S b) : EBlk W2 b v0 v1 v2 :=
 ⟨Nat.lt_of_lt_of_le h.hb hb.size, (hb.cell (p := ⟨b, 0, none⟩) h.hb hn).trans h.c0, (hb.cell (p := ⟨b, 1, none⟩) h.hb hn).trans h.c1, (hb.cell (p := ⟨b, 2, none⟩) h.hb hn).trans h.c2,
  (hb.frozen (p := ⟨b, 0, none⟩) h.hb hn).trans h.f0, (hb.frozen (p := ⟨b, 1, none⟩) h.hb hn).trans h.f1, (hb.frozen (p := ⟨b, 2, none⟩) h.hb hn).trans h.f2⟩
theorem EBlk.far {W : World} {b c o : Nat} {v0 v1 v2 v : Value} (h : EBlk W b v0 v1 v2) (hne : c ≠ b) : EBlk (W.setCell ⟨c, o, none⟩ v) b v0 v1 v2 :=
 ⟨by simpa using h.hb, by rw [World.cell?_setCell_far _ _ _ _ hne]; exact h.c0, by rw [World.cell?_setCell_far _ _ _ _ hne]; exact h.c1, by rw [World.cell?_setCell_far _ _ _ _ hne]; exact h.c2, by simpa using h.f0, by simpa using h.f1, by simpa using h.f2⟩

end Go.Proofs.YtggpdhdbeokkcaaGreat

namespace Go.Proofs.YtggpdhdbeokkcaaGreat
set_option linter.unusedVariables false
open Go.RowKit Go.Shelf

end Go.Proofs.YtggpdhdbeokkcaaGreat

namespace Go.Proofs.YtggpdhdbeokkcaaGreat
set_option linter.unusedVariables false
open Go.RowKit Go.Shelf

theorem own_only {S : Nat → Prop} {W W2 : World} {base : Nat} {t : TypeId} {size : Nat} {v : Value} {n : Nat} {xs : List Value} (h : W.ownsRow base t size v n xs) (hb : Only S W W2) (hn : ∀ q, v.ownBlock = some q → ¬ S q) : W2.ownsRow base t size v n xs := by
 obtain ⟨h1, h2⟩ := h
 refine ⟨h1, ?_⟩
 rcases h2 with h2 | ⟨g, cap, cur, hv, hg, hh, r⟩
 ·exact .inl h2
 ·exact .inr ⟨g, cap, cur, hv, hg, by rw [hb.block g (Array.getElem?_eq_some_iff.1 hh).1 (hn g (by rw [hv]; rfl))]; exact hh, r⟩
end Go.Proofs.YtggpdhdbeokkcaaGreat

namespace Go.Proofs.YtggpdhdbeokkcaaGreat
set_option linter.unusedVariables false
open Go.RowKit Go.Shelf

theorem below_on2 {B : Nat} {a b c : World} (h : Below B a b) (hB : B ≤ a.heap.size) (k : Below b.heap.size b c) : Below B a c := h.trans (k.mono (Nat.le_trans hB h.size))

theorem own_form {W : World} {base : Nat} {t : TypeId} {size k : Nat} {pv : Value} {xs : List Value} (h : W.ownsRow base t size pv k xs) : ∃ pa pc, pv = .slice pa k pc := by
 rcases h.2 with ⟨h1, h2⟩ | ⟨g, cap, cur, hv, _⟩
 ·exact ⟨none, 0, by rw [h1, h2]⟩
 ·exact ⟨_, _, hv⟩

theorem own_frozen {W : World} {base : Nat} {t : TypeId} {size k g : Nat} {pv : Value} {xs : List Value} (h : W.ownsRow base t size pv k xs) (hg : pv.ownBlock = some g) (j : Nat) : W.frozen? ⟨g, j, none⟩ = false := by
 rcases h.2 with ⟨rfl, _⟩ | ⟨g', cap, cur, rfl, _, hgg, _⟩
 ·simp [Value.ownBlock] at hg
 ·simp [Value.ownBlock] at hg
  subst hg
  simp [World.frozen?, hgg]

theorem grown_only {Wc W W2 : World} {row : Option Nat} (hb : Below Wc.heap.size Wc W) (hg : W.grownBy W2 row) : Only (fun q => row = some q) Wc W2 :=
 (Only.of_below hb).trans ⟨hg.os, hg.tape, hg.output, hg.size, fun c hc hn => hg.block c hc (fun e => hn e.symm)⟩

/-- A list of an own row with one element more. -/
structure AppW (Wc W : World) (B0 t : Nat) (pv : Value) (k : Nat) (ys : List Value) (z : Value) : Prop where
 only : Only (fun q => pv.ownBlock = some q) Wc W
 own : W.ownsRow B0 t 1 z (k + 1) ys
 form : ∃ g cap, z = .slice (some ⟨g, 0, none⟩) (k + 1) cap ∧ (pv.ownBlock = some g ∨ Wc.heap.size ≤ g) ∧ g < W.heap.size
theorem AppW.make {Wc W W2 : World} {B0 t : Nat} {pv : Value} {k : Nat} {ys : List Value} {g cap : Nat} (hb : Below Wc.heap.size Wc W) (hg : W.grownBy W2 pv.ownBlock) (ho : W2.ownsRow B0 t 1 (.slice (some ⟨g, 0, none⟩) (k + 1) cap) (k + 1) ys) (ha : pv.ownBlock = some g ∨ g = W.heap.size) (hl : g < W2.heap.size) :
  AppW Wc W2 B0 t pv k ys (.slice (some ⟨g, 0, none⟩) (k + 1) cap) :=
 ⟨grown_only hb hg, ho, g, cap, rfl, ha.imp id (fun e => by rw [e]; exact hb.size), hl⟩

theorem only_set (W : World) (p : Addr) (v : Value) : Only (fun q => q = p.block) W (W.setCell p v) := (Only.refl (fun q => q = p.block) W).setCell p rfl v

end Go.Proofs.YtggpdhdbeokkcaaGreat
