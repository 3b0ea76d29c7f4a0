/- Layer 4: how the elimination lies in memory. Layer 4: products of two words, and the step of an elimination without fractions. Layer 4: the first row ahead whose number in a column is not zero. Layer 4: an append onto a row of the elimination's own, and what it leaves. -/
import Derived.Test.YtdbmlkkpffoadaaLM
import Derived.Test.YtdbmlkkpffoadaaRLawMath
import Derived.Laws.AppendOwn
import Derived.Test.YtdbmlkkpffoadaaRProd
import Derived.Test.YtdbmlkkpffoadaaRDiv2
import Derived.Test.YtdbmlkkpffoadaaShelf
import Derived.Deep.AppendLies
namespace Go.Proofs.Ytdbmlkkpffoadaa
set_option linter.unusedVariables false
open Go.RowKit Go.Shelf

/-- Of the old blocks only those of S have changed. -/
structure Only (S : Nat → Prop) (W W' : World) : Prop where
  os : W'.os = W.os
  tape : W'.tape = W.tape
  output : W'.output = W.output
  size : W.heap.size ≤ W'.heap.size
  block : ∀ c, c < W.heap.size → ¬ S c → W'.heap[c]? = W.heap[c]?
theorem Only.refl (S : Nat → Prop) (W : World) : Only S W W := ⟨rfl, rfl, rfl, Nat.le_refl _, fun _ _ _ => rfl⟩
theorem Only.trans {S : Nat → Prop} {a b c : World} (h : Only S a b) (k : Only S b c) : Only S a c :=
  ⟨k.os.trans h.os, k.tape.trans h.tape, k.output.trans h.output, Nat.le_trans h.size k.size, fun x hx hn => (k.block x (Nat.lt_of_lt_of_le hx h.size) hn).trans (h.block x hx hn)⟩
theorem Only.of_below {S : Nat → Prop} {W W' : World} (h : Below W.heap.size W W') : Only S W W' := ⟨h.os, h.tape, h.output, h.size, fun c hc _ => h.block c hc⟩
theorem Only.mono {S T : Nat → Prop} {W W' : World} (h : Only S W W') (hs : ∀ c, S c → T c) : Only T W W' := ⟨h.os, h.tape, h.output, h.size, fun c hc hn => h.block c hc fun k => hn (hs c k)⟩
theorem Only.below {S : Nat → Prop} {W W' : World} (h : Only S W W') {B : Nat} (hB : B ≤ W.heap.size) (hs : ∀ c, S c → B ≤ c) : Below B W W' := ⟨h.os, h.tape, h.output, h.size, fun c hc => h.block c (Nat.lt_of_lt_of_le hc hB) fun k => by have := hs c k; omega⟩
theorem Only.setCell {S : Nat → Prop} {W W' : World} (h : Only S W W') (p : Addr) (hp : S p.block) (v : Value) : Only S W (W'.setCell p v) := by
  refine h.trans ⟨rfl, rfl, rfl, by simp, fun c hc hn => ?_⟩
  exact Below.heap_setCell W' p v c (fun e => hn (by rw [e]; exact hp))
theorem Only.on {S : Nat → Prop} {W W' W2 : World} (h : Only S W W') (hb : Below W'.heap.size W' W2) : Only S W W2 := h.trans (Only.of_below hb)
theorem Only.cell {S : Nat → Prop} {W W' : World} (h : Only S W W') {p : Addr} (hp : p.block < W.heap.size) (hn : ¬ S p.block) : W'.cell? p = W.cell? p := World.cell?_of_block (w := W) (h.block p.block hp hn)
theorem Only.frozen {S : Nat → Prop} {W W' : World} (h : Only S W W') {p : Addr} (hp : p.block < W.heap.size) (hn : ¬ S p.block) : W'.frozen? p = W.frozen? p := World.frozen?_of_block (w := W) (h.block p.block hp hn)

theorem adr_ne {b i j : Nat} (h : i ≠ j) : (⟨b, i, none⟩ : Addr) ≠ ⟨b, j, none⟩ := by
  intro e
  injection e with e1 e2 e3
  exact h e2

/-- A list of rows of integers, each in a block of its own. -/
structure Grid (B0 : Nat) (W : World) (b R n : Nat) (G C : Nat → Nat) (E : Nat → Nat → Int) : Prop where
  lb : B0 ≤ b
  hb : b < W.heap.size
  top : ∀ i, i < R → W.cell? ⟨b, i, none⟩ = some (.slice (some ⟨G i, 0, none⟩) n (C i))
  tfz : ∀ i, i < R → W.frozen? ⟨b, i, none⟩ = false
  row : ∀ i, i < R → B0 ≤ G i ∧ G i < W.heap.size ∧ G i ≠ b
  cap : ∀ i, i < R → n ≤ C i
  inj : ∀ i k, i < R → k < R → G i = G k → i = k
  cell : ∀ i j, i < R → j < n → W.cell? ⟨G i, j, none⟩ = some (.int .i64 (E i j))
  fz : ∀ i j, i < R → j < n → W.frozen? ⟨G i, j, none⟩ = false
theorem Grid.on {B0 : Nat} {W W2 : World} {b R n : Nat} {G C : Nat → Nat} {E : Nat → Nat → Int} (h : Grid B0 W b R n G C E) (hb : Below W.heap.size W W2) : Grid B0 W2 b R n G C E where
  lb := h.lb
  hb := Nat.lt_of_lt_of_le h.hb hb.size
  top i hi := (hb.cell (p := ⟨b, i, none⟩) h.hb).trans (h.top i hi)
  tfz i hi := (hb.frozen (p := ⟨b, i, none⟩) h.hb).trans (h.tfz i hi)
  row i hi := ⟨(h.row i hi).1, Nat.lt_of_lt_of_le (h.row i hi).2.1 hb.size, (h.row i hi).2.2⟩
  cap := h.cap
  inj := h.inj
  cell i j hi hj := (hb.cell (p := ⟨G i, j, none⟩) (h.row i hi).2.1).trans (h.cell i j hi hj)
  fz i j hi hj := (hb.frozen (p := ⟨G i, j, none⟩) (h.row i hi).2.1).trans (h.fz i j hi hj)
theorem Grid.only {S : Nat → Prop} {B0 : Nat} {W W2 : World} {b R n : Nat} {G C : Nat → Nat} {E : Nat → Nat → Int} (h : Grid B0 W b R n G C E) (hb : Only S W W2) (nb : ¬ S b) (nr : ∀ i, i < R → ¬ S (G i)) : Grid B0 W2 b R n G C E where
  lb := h.lb
  hb := Nat.lt_of_lt_of_le h.hb hb.size
  top i hi := (hb.cell (p := ⟨b, i, none⟩) h.hb nb).trans (h.top i hi)
  tfz i hi := (hb.frozen (p := ⟨b, i, none⟩) h.hb nb).trans (h.tfz i hi)
  row i hi := ⟨(h.row i hi).1, Nat.lt_of_lt_of_le (h.row i hi).2.1 hb.size, (h.row i hi).2.2⟩
  cap := h.cap
  inj := h.inj
  cell i j hi hj := (hb.cell (p := ⟨G i, j, none⟩) (h.row i hi).2.1 (nr i hi)).trans (h.cell i j hi hj)
  fz i j hi hj := (hb.frozen (p := ⟨G i, j, none⟩) (h.row i hi).2.1 (nr i hi)).trans (h.fz i j hi hj)
def setE (E : Nat → Nat → Int) (i0 j0 : Nat) (v : Int) : Nat → Nat → Int := fun i j => if i = i0 ∧ j = j0 then v else E i j
theorem Grid.set {B0 : Nat} {W : World} {b R n : Nat} {G C : Nat → Nat} {E : Nat → Nat → Int} (h : Grid B0 W b R n G C E) (i0 j0 : Nat) (hi0 : i0 < R) (hj0 : j0 < n) (v : Int) : Grid B0 (W.setCell ⟨G i0, j0, none⟩ (.int .i64 v)) b R n G C (setE E i0 j0 v) where
  lb := h.lb
  hb := by simpa using h.hb
  top i hi := by rw [World.cell?_setCell_far _ _ _ _ (h.row i0 hi0).2.2]; exact h.top i hi
  tfz i hi := by simpa using h.tfz i hi
  row i hi := by simpa using h.row i hi
  cap := h.cap
  inj := h.inj
  cell i j hi hj := by
    unfold setE
    by_cases e : i = i0 ∧ j = j0
    · obtain ⟨rfl, rfl⟩ := e
      rw [if_pos ⟨rfl, rfl⟩]
      exact World.cell?_setCell_same' _ _ _ (by rw [h.cell i j hi hj]; rfl)
    · rw [if_neg e]
      by_cases e2 : i = i0
      · subst e2
        rw [World.cell?_setCell_other _ _ _ _ (adr_ne (b := G i) (i := j0) (j := j) (fun q => e ⟨rfl, q.symm⟩))]
        exact h.cell i j hi hj
      · rw [World.cell?_setCell_far _ _ _ _ (fun k => e2 (h.inj i0 i hi0 hi k).symm)]
        exact h.cell i j hi hj
  fz i j hi hj := by simpa using h.fz i j hi hj
theorem Grid.congr {B0 : Nat} {W : World} {b R n : Nat} {G C : Nat → Nat} {E F : Nat → Nat → Int} (h : Grid B0 W b R n G C E) (e : ∀ i j, i < R → j < n → F i j = E i j) : Grid B0 W b R n G C F where
  lb := h.lb
  hb := h.hb
  top := h.top
  tfz := h.tfz
  row := h.row
  cap := h.cap
  inj := h.inj
  cell i j hi hj := by rw [e i j hi hj]; exact h.cell i j hi hj
  fz := h.fz
def swN (k a : Nat) (G : Nat → Nat) : Nat → Nat := fun i => if i = k then G a else if i = a then G k else G i
def swE (k a : Nat) (E : Nat → Nat → Int) : Nat → Nat → Int := fun i j => if i = k then E a j else if i = a then E k j else E i j
theorem Grid.swap {B0 : Nat} {W : World} {b R n : Nat} {G C : Nat → Nat} {E : Nat → Nat → Int} (h : Grid B0 W b R n G C E) (k a : Nat) (hk : k < a) (ha : a < R) :
    Grid B0 ((W.setCell ⟨b, k, none⟩ (.slice (some ⟨G a, 0, none⟩) n (C a))).setCell ⟨b, a, none⟩ (.slice (some ⟨G k, 0, none⟩) n (C k))) b R n (swN k a G) (swN k a C) (swE k a E) := by
  have pick : ∀ i, i < R → (i = k ∧ swN k a G i = G a ∧ swN k a C i = C a ∧ swE k a E i = E a) ∨ (i = a ∧ swN k a G i = G k ∧ swN k a C i = C k ∧ swE k a E i = E k) ∨ (i ≠ k ∧ i ≠ a ∧ swN k a G i = G i ∧ swN k a C i = C i ∧ swE k a E i = E i) := fun i hi => by
    by_cases e1 : i = k
    · exact .inl ⟨e1, if_pos e1, if_pos e1, by funext j; exact if_pos e1⟩
    · by_cases e2 : i = a
      · refine .inr (.inl ⟨e2, ?_, ?_, ?_⟩)
        · unfold swN; rw [if_neg e1, if_pos e2]
        · unfold swN; rw [if_neg e1, if_pos e2]
        · funext j; unfold swE; rw [if_neg e1, if_pos e2]
      · refine .inr (.inr ⟨e1, e2, ?_, ?_, ?_⟩)
        · unfold swN; rw [if_neg e1, if_neg e2]
        · unfold swN; rw [if_neg e1, if_neg e2]
        · funext j; unfold swE; rw [if_neg e1, if_neg e2]
  have far : ∀ i j, i < R → ((W.setCell ⟨b, k, none⟩ (.slice (some ⟨G a, 0, none⟩) n (C a))).setCell ⟨b, a, none⟩ (.slice (some ⟨G k, 0, none⟩) n (C k))).cell? ⟨G i, j, none⟩ = W.cell? ⟨G i, j, none⟩ := fun i j hi => by
    rw [World.cell?_setCell_far _ _ _ _ (h.row i hi).2.2.symm, World.cell?_setCell_far _ _ _ _ (h.row i hi).2.2.symm]
  refine ⟨h.lb, by simpa using h.hb, fun i hi => ?_, fun i hi => by simpa using h.tfz i hi, fun i hi => ?_, fun i hi => ?_, fun i i2 hi hi2 e => ?_, fun i j hi hj => ?_, fun i j hi hj => ?_⟩
  · rcases pick i hi with ⟨rfl, e1, e2, _⟩ | ⟨rfl, e1, e2, _⟩ | ⟨n1, n2, e1, e2, _⟩
    · rw [e1, e2, World.cell?_setCell_other _ _ _ _ (adr_ne (b := b) (i := a) (j := i) (by omega))]
      exact World.cell?_setCell_same' _ _ _ (by rw [h.top i hi]; rfl)
    · rw [e1, e2]
      refine World.cell?_setCell_same' _ _ _ ?_
      rw [World.cell?_setCell_other _ _ _ _ (adr_ne (b := b) (i := k) (j := i) (by omega)), h.top i hi]; rfl
    · rw [e1, e2, World.cell?_setCell_other _ _ _ _ (adr_ne (b := b) (i := a) (j := i) (by omega)), World.cell?_setCell_other _ _ _ _ (adr_ne (b := b) (i := k) (j := i) (by omega))]
      exact h.top i hi
  · rcases pick i hi with ⟨_, e1, _⟩ | ⟨_, e1, _⟩ | ⟨_, _, e1, _⟩
    · rw [e1]; simpa using h.row a ha
    · rw [e1]; simpa using h.row k (by omega)
    · rw [e1]; simpa using h.row i hi
  · rcases pick i hi with ⟨_, _, e1, _⟩ | ⟨_, _, e1, _⟩ | ⟨_, _, _, e1, _⟩
    · rw [e1]; exact h.cap a ha
    · rw [e1]; exact h.cap k (by omega)
    · rw [e1]; exact h.cap i hi
  · rcases pick i hi with ⟨q1, e1, _⟩ | ⟨q1, e1, _⟩ | ⟨q1, q2, e1, _⟩ <;> rcases pick i2 hi2 with ⟨p1, f1, _⟩ | ⟨p1, f1, _⟩ | ⟨p1, p2, f1, _⟩ <;> rw [e1, f1] at e
    · omega
    · have := h.inj _ _ ha (by omega) e; omega
    · have := h.inj _ _ ha hi2 e; omega
    · have := h.inj _ _ (by omega) ha e; omega
    · omega
    · have := h.inj _ _ (by omega) hi2 e; omega
    · have := h.inj _ _ hi ha e; omega
    · have := h.inj _ _ hi (by omega) e; omega
    · exact h.inj _ _ hi hi2 e
  · rcases pick i hi with ⟨_, e1, _, e3⟩ | ⟨_, e1, _, e3⟩ | ⟨_, _, e1, _, e3⟩
    · rw [e1, e3, far a j ha]; exact h.cell a j ha hj
    · rw [e1, e3, far k j (by omega)]; exact h.cell k j (by omega) hj
    · rw [e1, e3, far i j hi]; exact h.cell i j hi hj
  · rcases pick i hi with ⟨_, e1, _, e3⟩ | ⟨_, e1, _, e3⟩ | ⟨_, _, e1, _, e3⟩
    · rw [e1]; simpa using h.fz a j ha hj
    · rw [e1]; simpa using h.fz k j (by omega) hj
    · rw [e1]; simpa using h.fz i j hi hj

/-- The elimination's own block: its rows, its pivots, its last pivot. -/
structure EBlk (W : World) (b : Nat) (v0 v1 v2 : Value) : Prop where
  hb : b < W.heap.size
  c0 : W.cell? ⟨b, 0, none⟩ = some v0
  c1 : W.cell? ⟨b, 1, none⟩ = some v1
  c2 : W.cell? ⟨b, 2, none⟩ = some v2
  f0 : W.frozen? ⟨b, 0, none⟩ = false
  f1 : W.frozen? ⟨b, 1, none⟩ = false
  f2 : W.frozen? ⟨b, 2, none⟩ = false
theorem EBlk.on {W W2 : World} {b : Nat} {v0 v1 v2 : Value} (h : EBlk W b v0 v1 v2) (hb : Below W.heap.size W W2) : EBlk W2 b v0 v1 v2 :=
  ⟨Nat.lt_of_lt_of_le h.hb hb.size, (hb.cell (p := ⟨b, 0, none⟩) h.hb).trans h.c0, (hb.cell (p := ⟨b, 1, none⟩) h.hb).trans h.c1, (hb.cell (p := ⟨b, 2, none⟩) h.hb).trans h.c2,
   (hb.frozen (p := ⟨b, 0, none⟩) h.hb).trans h.f0, (hb.frozen (p := ⟨b, 1, none⟩) h.hb).trans h.f1, (hb.frozen (p := ⟨b, 2, none⟩) h.hb).trans h.f2⟩
theorem EBlk.only {S : Nat → Prop} {W W2 : World} {b : Nat} {v0 v1 v2 : Value} (h : EBlk W b v0 v1 v2) (hb : Only S W W2) (hn : ¬ S b) : EBlk W2 b v0 v1 v2 :=
  ⟨Nat.lt_of_lt_of_le h.hb hb.size, (hb.cell (p := ⟨b, 0, none⟩) h.hb hn).trans h.c0, (hb.cell (p := ⟨b, 1, none⟩) h.hb hn).trans h.c1, (hb.cell (p := ⟨b, 2, none⟩) h.hb hn).trans h.c2,
   (hb.frozen (p := ⟨b, 0, none⟩) h.hb hn).trans h.f0, (hb.frozen (p := ⟨b, 1, none⟩) h.hb hn).trans h.f1, (hb.frozen (p := ⟨b, 2, none⟩) h.hb hn).trans h.f2⟩
theorem EBlk.far {W : World} {b c o : Nat} {v0 v1 v2 v : Value} (h : EBlk W b v0 v1 v2) (hne : c ≠ b) : EBlk (W.setCell ⟨c, o, none⟩ v) b v0 v1 v2 :=
  ⟨by simpa using h.hb, by rw [World.cell?_setCell_far _ _ _ _ hne]; exact h.c0, by rw [World.cell?_setCell_far _ _ _ _ hne]; exact h.c1, by rw [World.cell?_setCell_far _ _ _ _ hne]; exact h.c2, by simpa using h.f0, by simpa using h.f1, by simpa using h.f2⟩

end Go.Proofs.Ytdbmlkkpffoadaa

namespace Go.Proofs.Ytdbmlkkpffoadaa
set_option linter.unusedVariables false
open Go.RowKit Go.Shelf

theorem ret_u2w {a b c d : Int} (h : a = c) (h' : b = d) : Ending.returned (.tuple #[.int .u64 a, .int .u64 b]) = .returned (.tuple #[.int .u64 c, .int .u64 d]) := by rw [h, h']
/-- The words of a product of signed numbers, by those of the numbers as unsigned ones. -/
theorem lp_math (a b : Int) (a0 : -9223372036854775808 ≤ a) (a1 : a ≤ 9223372036854775807) (b0 : -9223372036854775808 ≤ b) (b1 : b ≤ 9223372036854775807) (x y : Int)
    (hx : x = if a < 0 then a + 18446744073709551616 else a) (hy : y = if b < 0 then b + 18446744073709551616 else b) :
    loW (x * y) = loW (a * b) ∧ ((hiW (x * y) - (if a < 0 then y else 0)) % 18446744073709551616 - (if b < 0 then x else 0)) % 18446744073709551616 = hiW (a * b) := by
  by_cases ha : a < 0 <;> by_cases hb : b < 0
  · rw [if_pos ha] at hx ⊢; rw [if_pos hb] at hy ⊢
    have e : x * y = a * b + 18446744073709551616 * (a + b) + 340282366920938463463374607431768211456 := by rw [hx, hy]; grind
    rw [e]; generalize a * b = p; subst hx; subst hy
    unfold loW hiW; omega
  · rw [if_pos ha] at hx ⊢; rw [if_neg hb] at hy ⊢
    have e : x * y = a * b + 18446744073709551616 * b := by rw [hx, hy]; grind
    rw [e]; generalize a * b = p; subst hx; subst hy
    unfold loW hiW; omega
  · rw [if_neg ha] at hx ⊢; rw [if_pos hb] at hy ⊢
    have e : x * y = a * b + 18446744073709551616 * a := by rw [hx, hy]; grind
    rw [e]; generalize a * b = p; subst hx; subst hy
    unfold loW hiW; omega
  · rw [if_neg ha] at hx ⊢; rw [if_neg hb] at hy ⊢
    subst hx; subst hy
    refine ⟨rfl, ?_⟩
    have := hiW_bd (x * y)
    omega

/-- The division of a step: no remainder, and small. -/
theorem cr_math {z by_ r : Int} (h : z = r * by_) (hb : by_ ≠ 0) (b0 : -4611686018427387904 ≤ by_) (b1 : by_ ≤ 4611686018427387904) (r0 : -4611686018427387904 ≤ r) (r1 : r ≤ 4611686018427387904) :
    ((z.natAbs : Nat) : Int) / ((by_.natAbs : Nat) : Int) = (r.natAbs : Int) ∧ hiW (z.natAbs : Int) < (by_.natAbs : Int) ∧ ((z.natAbs : Nat) : Int) < 21267647932558653966460912964485513217 := by
  have e : ((z.natAbs : Nat) : Int) = (r.natAbs : Int) * (by_.natAbs : Int) := by rw [h, Int.natAbs_mul]; rfl
  have p : 0 < ((by_.natAbs : Nat) : Int) := by omega
  have q : ((z.natAbs : Nat) : Int) ≤ 4611686018427387904 * (by_.natAbs : Int) := by
    rw [e]
    exact Int.mul_le_mul_of_nonneg_right (by omega) (by omega)
  refine ⟨by rw [e, Int.mul_ediv_cancel _ (by omega)], ?_, by omega⟩
  unfold hiW
  omega
theorem cr_sign {z by_ r : Int} (h : z = r * by_) (hb : by_ ≠ 0) : (z < 0 ∧ by_ < 0 → (r.natAbs : Int) = r) ∧ (z < 0 ∧ ¬ by_ < 0 → -(r.natAbs : Int) = r) ∧ (¬ z < 0 ∧ by_ < 0 → -(r.natAbs : Int) = r) ∧ (¬ z < 0 ∧ ¬ by_ < 0 → (r.natAbs : Int) = r) := by
  refine ⟨fun g => ?_, fun g => ?_, fun g => ?_, fun g => ?_⟩
  · have : ¬ r < 0 := fun k => by
      have := Int.mul_pos_of_neg_of_neg k g.2
      omega
    omega
  · have : ¬ 0 < r := fun k => by
      have := Int.mul_pos k (show 0 < by_ by omega)
      omega
    omega
  · have : ¬ 0 < r := fun k => by
      have := Int.mul_neg_of_pos_of_neg k g.2
      omega
    omega
  · have : ¬ r < 0 := fun k => by
      have := Int.mul_neg_of_neg_of_pos k (show 0 < by_ by omega)
      omega
    omega

end Go.Proofs.Ytdbmlkkpffoadaa

namespace Go.Proofs.Ytdbmlkkpffoadaa
set_option linter.unusedVariables false
open Go.RowKit Go.Shelf

def rowV (n R : Nat) (G C : Nat → Nat) : Nat → Value := fun i => .slice (some ⟨G (min i (R - 1)), 0, none⟩) n (C (min i (R - 1)))
/-- The elimination in memory: its own block, the rows, the pivots. -/
structure ESt (B0 : Nat) (W : World) (eb b R n Cb : Nat) (G C : Nat → Nat) (E : Nat → Nat → Int) (pv : Value) (k : Nat) (p : Nat → Nat) (D : Int) : Prop where
  e : EBlk W eb (.slice (some ⟨b, 0, none⟩) R Cb) pv (.int .i64 D)
  g : Grid B0 W b R n G C E
  o : W.ownsRow B0 3 1 pv k ((List.range k).map fun l => Value.int .i64 (p l))
  ne : eb ≠ b
  nr : ∀ i, i < R → G i ≠ eb
  pb : ∀ q, pv.ownBlock = some q → q ≠ eb ∧ q ≠ b ∧ ∀ i, i < R → G i ≠ q
  le : B0 ≤ eb
  cb : R ≤ Cb
theorem own_only {S : Nat → Prop} {W W2 : World} {base : Nat} {t : TypeId} {size : Nat} {v : Value} {n : Nat} {xs : List Value} (h : W.ownsRow base t size v n xs) (hb : Only S W W2) (hn : ∀ q, v.ownBlock = some q → ¬ S q) : W2.ownsRow base t size v n xs := by
  obtain ⟨h1, h2⟩ := h
  refine ⟨h1, ?_⟩
  rcases h2 with h2 | ⟨g, cap, cur, hv, hg, hh, r⟩
  · exact .inl h2
  · exact .inr ⟨g, cap, cur, hv, hg, by rw [hb.block g (Array.getElem?_eq_some_iff.1 hh).1 (hn g (by rw [hv]; rfl))]; exact hh, r⟩
theorem ESt.on {B0 : Nat} {W W2 : World} {eb b R n Cb k : Nat} {G C : Nat → Nat} {E : Nat → Nat → Int} {pv : Value} {p : Nat → Nat} {D : Int} (h : ESt B0 W eb b R n Cb G C E pv k p D) (hb : Below W.heap.size W W2) : ESt B0 W2 eb b R n Cb G C E pv k p D :=
  ⟨h.e.on hb, h.g.on hb, own_only h.o (Only.of_below (S := fun _ => False) hb) (fun _ _ q => q), h.ne, h.nr, h.pb, h.le, h.cb⟩
theorem ESt.set {B0 : Nat} {W : World} {eb b R n Cb k : Nat} {G C : Nat → Nat} {E : Nat → Nat → Int} {pv : Value} {p : Nat → Nat} {D : Int} (h : ESt B0 W eb b R n Cb G C E pv k p D) (i j : Nat) (hi : i < R) (hj : j < n) (v : Int) :
    ESt B0 (W.setCell ⟨G i, j, none⟩ (.int .i64 v)) eb b R n Cb G C (setE E i j v) pv k p D :=
  ⟨h.e.far (h.nr i hi), h.g.set i j hi hj v, own_only h.o ((Only.refl (fun q => q = G i) W).setCell ⟨G i, j, none⟩ rfl _) (fun q hq e => (h.pb q hq).2.2 i hi e.symm), h.ne, h.nr, h.pb, h.le, h.cb⟩
theorem ESt.congr {B0 : Nat} {W : World} {eb b R n Cb k : Nat} {G C : Nat → Nat} {E F : Nat → Nat → Int} {pv : Value} {p : Nat → Nat} {D : Int} (h : ESt B0 W eb b R n Cb G C E pv k p D) (e : ∀ i j, i < R → j < n → F i j = E i j) : ESt B0 W eb b R n Cb G C F pv k p D :=
  ⟨h.e, h.g.congr e, h.o, h.ne, h.nr, h.pb, h.le, h.cb⟩
/-- Behind the exchange of two rows. -/
theorem ESt.swap {B0 : Nat} {W W2 : World} {eb b R n Cb k : Nat} {G C : Nat → Nat} {E : Nat → Nat → Int} {pv : Value} {p : Nat → Nat} {D : Int} (h : ESt B0 W eb b R n Cb G C E pv k p D) (i a : Nat) (hi : i < a) (ha : a < R)
    (h1 : EBlk W2 eb (.slice (some ⟨b, 0, none⟩) R Cb) pv (.int .i64 D)) (h2 : Grid B0 W2 b R n (swN i a G) (swN i a C) (exU i a E)) (h3 : Only (fun c => c = b ∨ c = G i) W W2) :
    ESt B0 W2 eb b R n Cb (swN i a G) (swN i a C) (exU i a E) pv k p D := by
  have hs : ∀ x, x < R → ∃ y, y < R ∧ swN i a G x = G y := fun x hx => by
    unfold swN
    split
    · exact ⟨a, ha, rfl⟩
    · split
      · exact ⟨i, by omega, rfl⟩
      · exact ⟨x, hx, rfl⟩
  refine ⟨h1, h2, own_only h.o h3 (fun q hq e => ?_), h.ne, fun x hx => ?_, fun q hq => ⟨(h.pb q hq).1, (h.pb q hq).2.1, fun x hx => ?_⟩, h.le, h.cb⟩
  · rcases e with e | e
    · exact (h.pb q hq).2.1 e
    · exact (h.pb q hq).2.2 i (by omega) e.symm
  · obtain ⟨y, hy, e⟩ := hs x hx
    rw [e]; exact h.nr y hy
  · obtain ⟨y, hy, e⟩ := hs x hx
    rw [e]; exact (h.pb q hq).2.2 y hy

end Go.Proofs.Ytdbmlkkpffoadaa

namespace Go.Proofs.Ytdbmlkkpffoadaa
set_option linter.unusedVariables false
open Go.RowKit Go.Shelf

theorem below_on2 {B : Nat} {a b c : World} (h : Below B a b) (hB : B ≤ a.heap.size) (k : Below b.heap.size b c) : Below B a c := h.trans (k.mono (Nat.le_trans hB h.size))

theorem own_form {W : World} {base : Nat} {t : TypeId} {size k : Nat} {pv : Value} {xs : List Value} (h : W.ownsRow base t size pv k xs) : ∃ pa pc, pv = .slice pa k pc := by
  rcases h.2 with ⟨h1, h2⟩ | ⟨g, cap, cur, hv, _⟩
  · exact ⟨none, 0, by rw [h1, h2]⟩
  · exact ⟨_, _, hv⟩

theorem own_frozen {W : World} {base : Nat} {t : TypeId} {size k g : Nat} {pv : Value} {xs : List Value} (h : W.ownsRow base t size pv k xs) (hg : pv.ownBlock = some g) (j : Nat) : W.frozen? ⟨g, j, none⟩ = false := by
  rcases h.2 with ⟨rfl, _⟩ | ⟨g', cap, cur, rfl, _, hgg, _⟩
  · simp [Value.ownBlock] at hg
  · simp [Value.ownBlock] at hg
    subst hg
    simp [World.frozen?, hgg]

theorem grown_only {Wc W W2 : World} {row : Option Nat} (hb : Below Wc.heap.size Wc W) (hg : W.grownBy W2 row) : Only (fun q => row = some q) Wc W2 :=
  (Only.of_below hb).trans ⟨hg.os, hg.tape, hg.output, hg.size, fun c hc hn => hg.block c hc (fun e => hn e.symm)⟩

/-- A list of an own row with one element more. -/
structure AppW (Wc W : World) (B0 t : Nat) (pv : Value) (k : Nat) (ys : List Value) (z : Value) : Prop where
  only : Only (fun q => pv.ownBlock = some q) Wc W
  own : W.ownsRow B0 t 1 z (k + 1) ys
  form : ∃ g cap, z = .slice (some ⟨g, 0, none⟩) (k + 1) cap ∧ (pv.ownBlock = some g ∨ Wc.heap.size ≤ g) ∧ g < W.heap.size
theorem AppW.make {Wc W W2 : World} {B0 t : Nat} {pv : Value} {k : Nat} {ys : List Value} {g cap : Nat} (hb : Below Wc.heap.size Wc W) (hg : W.grownBy W2 pv.ownBlock) (ho : W2.ownsRow B0 t 1 (.slice (some ⟨g, 0, none⟩) (k + 1) cap) (k + 1) ys) (ha : pv.ownBlock = some g ∨ g = W.heap.size) (hl : g < W2.heap.size) :
    AppW Wc W2 B0 t pv k ys (.slice (some ⟨g, 0, none⟩) (k + 1) cap) :=
  ⟨grown_only hb hg, ho, g, cap, rfl, ha.imp id (fun e => by rw [e]; exact hb.size), hl⟩

theorem EBlk.set1 {W : World} {b : Nat} {v0 v1 v2 : Value} (h : EBlk W b v0 v1 v2) (z : Value) : EBlk (W.setCell ⟨b, 1, none⟩ z) b v0 z v2 :=
  ⟨by simpa using h.hb, by rw [World.cell?_setCell_other _ _ _ _ (adr_ne (b := b) (i := 1) (j := 0) (by omega))]; exact h.c0, World.cell?_setCell_same' _ _ _ (by rw [h.c1]; rfl), by rw [World.cell?_setCell_other _ _ _ _ (adr_ne (b := b) (i := 1) (j := 2) (by omega))]; exact h.c2, by simpa using h.f0, by simpa using h.f1, by simpa using h.f2⟩
theorem EBlk.set2 {W : World} {b : Nat} {v0 v1 v2 : Value} (h : EBlk W b v0 v1 v2) (z : Value) : EBlk (W.setCell ⟨b, 2, none⟩ z) b v0 v1 z :=
  ⟨by simpa using h.hb, by rw [World.cell?_setCell_other _ _ _ _ (adr_ne (b := b) (i := 2) (j := 0) (by omega))]; exact h.c0, by rw [World.cell?_setCell_other _ _ _ _ (adr_ne (b := b) (i := 2) (j := 1) (by omega))]; exact h.c1, World.cell?_setCell_same' _ _ _ (by rw [h.c2]; rfl), by simpa using h.f0, by simpa using h.f1, by simpa using h.f2⟩
theorem EBlk.set0 {W : World} {b : Nat} {v0 v1 v2 : Value} (h : EBlk W b v0 v1 v2) (z : Value) : EBlk (W.setCell ⟨b, 0, none⟩ z) b z v1 v2 :=
  ⟨by simpa using h.hb, World.cell?_setCell_same' _ _ _ (by rw [h.c0]; rfl), by rw [World.cell?_setCell_other _ _ _ _ (adr_ne (b := b) (i := 0) (j := 1) (by omega))]; exact h.c1, by rw [World.cell?_setCell_other _ _ _ _ (adr_ne (b := b) (i := 0) (j := 2) (by omega))]; exact h.c2, by simpa using h.f0, by simpa using h.f1, by simpa using h.f2⟩

theorem only_set (W : World) (p : Addr) (v : Value) : Only (fun q => q = p.block) W (W.setCell p v) := (Only.refl (fun q => q = p.block) W).setCell p rfl v

theorem piv_list (p : Nat → Nat) (k c : Nat) : ((List.range (k + 1)).map fun l => Value.int .i64 (updP p k c l)) = ((List.range k).map fun l => Value.int .i64 (p l)) ++ [Value.int .i64 (c : Nat)] := by
  rw [List.range_succ, List.map_append]
  congr 1
  · apply List.map_congr_left
    intro l hl
    have : l < k := by simpa using hl
    unfold updP
    rw [if_neg (by omega)]
  · simp [updP]

theorem ESt.push {B0 : Nat} {W W2 : World} {eb b R n Cb k : Nat} {G C : Nat → Nat} {E : Nat → Nat → Int} {pv z : Value} {p : Nat → Nat} {D : Int} (h : ESt B0 W eb b R n Cb G C E pv k p D) (c : Nat)
    (a : AppW W W2 B0 3 pv k (((List.range k).map fun l => Value.int .i64 (p l)) ++ [Value.int .i64 (c : Nat)]) z) :
    ESt B0 (W2.setCell ⟨eb, 1, none⟩ z) eb b R n Cb G C E z (k + 1) (updP p k c) D := by
  have n1 : ¬ (pv.ownBlock = some eb) := fun e => (h.pb eb e).1 rfl
  have n2 : ¬ (pv.ownBlock = some b) := fun e => (h.pb b e).2.1 rfl
  have n3 : ∀ i, i < R → ¬ (pv.ownBlock = some (G i)) := fun i hi e => (h.pb (G i) e).2.2 i hi rfl
  obtain ⟨g, cap, hz, hg, hl⟩ := a.form
  have gz : ∀ q, z.ownBlock = some q → q = g := fun q hq => by rw [hz] at hq; simp [Value.ownBlock] at hq; exact hq.symm
  have g1 : g ≠ eb := fun e => by
    subst e
    rcases hg with hg | hg
    · exact n1 hg
    · have := h.e.hb; omega
  have g2 : g ≠ b := fun e => by
    subst e
    rcases hg with hg | hg
    · exact n2 hg
    · have := h.g.hb; omega
  have g3 : ∀ i, i < R → G i ≠ g := fun i hi e => by
    subst e
    rcases hg with hg | hg
    · exact n3 i hi hg
    · have := (h.g.row i hi).2.1; omega
  have o2 := only_set W2 ⟨eb, 1, none⟩ z
  refine ⟨(h.e.only a.only n1).set1 z, (h.g.only a.only n2 n3).only o2 (fun e => h.ne e.symm) (fun i hi e => h.nr i hi e), ?_, h.ne, h.nr, fun q hq => ?_, h.le, h.cb⟩
  · rw [piv_list]
    exact own_only a.own o2 (fun q hq e => g1 (by rw [← gz q hq]; exact e))
  · rw [gz q hq]
    exact ⟨g1, g2, g3⟩

theorem ESt.last {B0 : Nat} {W : World} {eb b R n Cb k : Nat} {G C : Nat → Nat} {E : Nat → Nat → Int} {pv : Value} {p : Nat → Nat} {D : Int} (h : ESt B0 W eb b R n Cb G C E pv k p D) (D2 : Int) :
    ESt B0 (W.setCell ⟨eb, 2, none⟩ (.int .i64 D2)) eb b R n Cb G C E pv k p D2 := by
  have o2 := only_set W ⟨eb, 2, none⟩ (.int .i64 D2)
  refine ⟨h.e.set2 _, h.g.only o2 (fun e => h.ne e.symm) (fun i hi e => h.nr i hi e), own_only h.o o2 (fun q hq e => (h.pb q hq).1 e), h.ne, h.nr, h.pb, h.le, h.cb⟩

end Go.Proofs.Ytdbmlkkpffoadaa
