/- Layer 5: lists and rows in memory, read or made: texts of layer 4 that layer 5 leans on. -/
import Derived.Test.YtggpdhdbeokkcaaGreatPRel
import Derived.Test.YtggpdhdbeokkcaaGreatRSumL
import Derived.Test.YtggpdhdbeokkcaaGreatROps2
import Derived.Test.YtggpdhdbeokkcaaGreatRMake
import Derived.Test.YtggpdhdbeokkcaaGreatLMath
import Derived.Laws.CopyOwn
import Derived.OpenShut
import Derived.Lib.SmallJoins
import Derived.Lib.AtoiErrMem
import Derived.Deep.SlicePairs
import Derived.Deep.Matrix
import Derived.Deep.Draws
namespace Go.Proofs.YtggpdhdbeokkcaaGreat
open Go.ChangeShapes Go.WideShapes Go.ChangeAt Go.RowKit Go.Joins Go.Deep Go.Shelf
set_option linter.unusedVariables false

/-- A row of integers that is read alone; nil, or empty, or not. -/
def IRow (W : World) (ra : Option Addr) (n : Nat) (f : Nat → Int) : Prop := 0 < n → ∃ g o, ra = some ⟨g, o, none⟩ ∧ g < W.heap.size ∧ ∀ j, j < n → W.cell? ⟨g, o + j, none⟩ = some (.int .i64 (f j))
theorem IRow.on {W W2 : World} {ra : Option Addr} {n : Nat} {f : Nat → Int} (h : IRow W ra n f) (hb : Below W.heap.size W W2) : IRow W2 ra n f := fun hn => by
 obtain ⟨g, o, h1, h2, h3⟩ := h hn
 exact ⟨g, o, h1, Nat.lt_of_lt_of_le h2 hb.size, fun j hj => (hb.cell (p := ⟨g, o + j, none⟩) h2).trans (h3 j hj)⟩
theorem ints_news {W : World} {g o n : Nat} {f : Nat → Int} (h : ∀ j, j < n → W.cell? ⟨g, o + j, none⟩ = some (.int .i64 (f j))) : ∀ j u, ((List.range n).map fun j => Value.int .i64 (f j))[j]? = some u → W.cell? ((⟨g, o, none⟩ : Addr).add j) = some u := fun j u hu => by
 have hj : j < n := by
  rcases Nat.lt_or_ge j n with q | q
  ·exact q
  ·rw [List.getElem?_eq_none (by simpa using q)] at hu; cases hu
 have e : (⟨g, o, none⟩ : Addr).add j = ⟨g, o + j, none⟩ := by unfold Addr.add; split <;> simp_all
 rw [e, h j hj]
 simpa [hj] using hu
/-- A list of fractions in a block of its own. -/
structure FrX (W : World) (xb n : Nat) (F : Nat → Int × Int) : Prop where
 hb : xb < W.heap.size
 c0 : ∀ l, l < n → W.cell? ⟨xb, l * 2, none⟩ = some (.int .i64 (F l).1)
 c1 : ∀ l, l < n → W.cell? ⟨xb, l * 2 + 1, none⟩ = some (.int .i64 (F l).2)
 f0 : ∀ l, l < n → W.frozen? ⟨xb, l * 2, none⟩ = false
 f1 : ∀ l, l < n → W.frozen? ⟨xb, l * 2 + 1, none⟩ = false
theorem FrX.on {W W2 : World} {xb n : Nat} {F : Nat → Int × Int} (h : FrX W xb n F) (hb : Below W.heap.size W W2) : FrX W2 xb n F :=
 ⟨Nat.lt_of_lt_of_le h.hb hb.size, fun l hl => (hb.cell (p := ⟨xb, l * 2, none⟩) h.hb).trans (h.c0 l hl), fun l hl => (hb.cell (p := ⟨xb, l * 2 + 1, none⟩) h.hb).trans (h.c1 l hl), fun l hl => (hb.frozen (p := ⟨xb, l * 2, none⟩) h.hb).trans (h.f0 l hl), fun l hl => (hb.frozen (p := ⟨xb, l * 2 + 1, none⟩) h.hb).trans (h.f1 l hl)⟩
def updF (F : Nat → Int × Int) (i : Nat) (v : Int × Int) : Nat → Int × Int := fun l => if l = i then v else F l
theorem FrX.set {W : World} {xb n : Nat} {F : Nat → Int × Int} (h : FrX W xb n F) (i : Nat) (hi : i < n) (a d : Int) :
  FrX ((W.setCell ⟨xb, i * 2, none⟩ (.int .i64 a)).setCell ⟨xb, i * 2 + 1, none⟩ (.int .i64 d)) xb n (updF F i (a, d)) := by
 have s0 : ((W.setCell ⟨xb, i * 2, none⟩ (.int .i64 a)).cell? ⟨xb, i * 2 + 1, none⟩).isSome = true := by
  rw [World.cell?_setCell_other _ _ _ _ (adr_ne (b := xb) (i := i * 2) (j := i * 2 + 1) (by omega)), h.c1 i hi]; rfl
 refine ⟨by simpa using h.hb, fun l hl => ?_, fun l hl => ?_, fun l hl => by simpa using h.f0 l hl, fun l hl => by simpa using h.f1 l hl⟩
 ·rw [World.cell?_setCell_other _ _ _ _ (adr_ne (b := xb) (i := i * 2 + 1) (j := l * 2) (by omega))]
  unfold updF
  by_cases e : l = i
  ·subst e
   rw [if_pos rfl]
   exact World.cell?_setCell_same' _ _ _ (by rw [h.c0 l hl]; rfl)
  ·rw [if_neg e, World.cell?_setCell_other _ _ _ _ (adr_ne (b := xb) (i := i * 2) (j := l * 2) (by omega))]
   exact h.c0 l hl
 ·unfold updF
  by_cases e : l = i
  ·subst e
   rw [if_pos rfl]
   exact World.cell?_setCell_same' _ _ _ s0
  ·rw [if_neg e, World.cell?_setCell_other _ _ _ _ (adr_ne (b := xb) (i := i * 2 + 1) (j := l * 2 + 1) (by omega)), World.cell?_setCell_other _ _ _ _ (adr_ne (b := xb) (i := i * 2) (j := l * 2 + 1) (by omega))]
   exact h.c1 l hl
theorem FrX.congr {W : World} {xb n : Nat} {F F2 : Nat → Int × Int} (h : FrX W xb n F) (e : ∀ l, l < n → F2 l = F l) : FrX W xb n F2 :=
 ⟨h.hb, fun l hl => by rw [e l hl]; exact h.c0 l hl, fun l hl => by rw [e l hl]; exact h.c1 l hl, h.f0, h.f1⟩
theorem made_zero2 (n j : Nat) (h : j < n * 2) : (madeCells #[Value.int .i64 0, Value.int .i64 0] (n * 2)).toList[j]? = some (Value.int .i64 0) := by
 have hm : j % 2 = 0 ∨ j % 2 = 1 := by omega
 rcases hm with hm | hm <;> simp [madeCells, h, hm]
theorem FrX.made {W : World} {g n : Nat} {base : Nat} {t : TypeId} (ho : W.ownsRow base t 2 (.slice (some ⟨g, 0, none⟩) n n) n (madeCells (Value.agg #[.int .i64 0, .int .i64 0]).cells (n * 2)).toList) (hn : 0 < n) : FrX W g n (fun _ => (0, 0)) := by
 have e : (Value.agg #[.int .i64 0, .int .i64 0]).cells = #[Value.int .i64 0, Value.int .i64 0] := by rfl
 rw [e] at ho
 have hb : g < W.heap.size := (ho.lt g rfl).2
 have hc : ∀ j, j < n * 2 → W.cell? ⟨g, j, none⟩ = some (.int .i64 0) := fun j hj => by
  have := ho.cells (g := g) rfl j (.int .i64 0) (made_zero2 n j hj)
  rwa [show (⟨g, 0, none⟩ : Addr).add j = ⟨g, j, none⟩ by unfold Addr.add; split <;> simp_all] at this
 exact ⟨hb, fun l hl => hc _ (by omega), fun l hl => hc _ (by omega), fun l hl => own_frozen ho rfl _, fun l hl => own_frozen ho rfl _⟩
theorem FrX.only {S : Nat → Prop} {W W2 : World} {xb n : Nat} {F : Nat → Int × Int} (h : FrX W xb n F) (hb : Only S W W2) (hn : ¬ S xb) : FrX W2 xb n F :=
 ⟨Nat.lt_of_lt_of_le h.hb hb.size, fun l hl => (hb.cell (p := ⟨xb, l * 2, none⟩) h.hb hn).trans (h.c0 l hl), fun l hl => (hb.cell (p := ⟨xb, l * 2 + 1, none⟩) h.hb hn).trans (h.c1 l hl), fun l hl => (hb.frozen (p := ⟨xb, l * 2, none⟩) h.hb hn).trans (h.f0 l hl), fun l hl => (hb.frozen (p := ⟨xb, l * 2 + 1, none⟩) h.hb hn).trans (h.f1 l hl)⟩
theorem NRow.made {W : World} {base g n : Nat} (h : W.ownsRow base 3 1 (.slice (some ⟨g, 0, none⟩) n n) n (madeCells (Value.int .i64 0).cells (n * 1)).toList) (lo : Nat) (hl : lo ≤ g) : NRow lo n W g n (fun _ => 0) := by
 refine ⟨hl, (h.lt g rfl).2, Nat.le_refl _, fun j hj => ?_, fun j hj => own_frozen h rfl j⟩
 have := h.cells (g := g) rfl j (.int .i64 0) (by
  rw [show (Value.int .i64 0).cells = #[Value.int .i64 0] by rfl, Nat.mul_one, toList_madeCells_one, List.getElem?_replicate, if_pos hj])
 rwa [show (⟨g, 0, none⟩ : Addr).add j = ⟨g, j, none⟩ by unfold Addr.add; split <;> simp_all] at this
/-- Rows that are appended one after the other. -/
structure RGw (B : Nat) (W : World) (n i : Nat) (G C : Nat → Nat) (M : Nat → Nat → Int) (rv : Value) : Prop where
 own : W.ownsRow B 22 1 rv i ((List.range i).map fun l => Value.slice (some ⟨G l, 0, none⟩) n (C l))
 row : ∀ l, l < i → B ≤ G l ∧ G l < W.heap.size ∧ rv.ownBlock ≠ some (G l)
 cap : ∀ l, l < i → n ≤ C l
 inj : ∀ l k, l < i → k < i → G l = G k → l = k
 cell : ∀ l j, l < i → j < n → W.cell? ⟨G l, j, none⟩ = some (.int .i64 (M l j))
 fz : ∀ l j, l < i → j < n → W.frozen? ⟨G l, j, none⟩ = false
theorem RGw.nil (B : Nat) (W : World) (n : Nat) (M : Nat → Nat → Int) : RGw B W n 0 (fun _ => 0) (fun _ => 0) M (.slice none 0 0) :=
 ⟨World.ownsRow_nil _ _ _ _, fun l h => by omega, fun l h => by omega, fun l k h => by omega, fun l j h => by omega, fun l j h => by omega⟩
theorem RGw.on {B : Nat} {W W2 : World} {n i : Nat} {G C : Nat → Nat} {M : Nat → Nat → Int} {rv : Value} (h : RGw B W n i G C M rv) (hb : Below W.heap.size W W2) : RGw B W2 n i G C M rv where
 own := own_only h.own (Only.of_below (S := fun _ => False) hb) (fun _ _ q => q)
 row l hl := ⟨(h.row l hl).1, Nat.lt_of_lt_of_le (h.row l hl).2.1 hb.size, (h.row l hl).2.2⟩
 cap := h.cap
 inj := h.inj
 cell l j hl hj := (hb.cell (p := ⟨G l, j, none⟩) (h.row l hl).2.1).trans (h.cell l j hl hj)
 fz l j hl hj := (hb.frozen (p := ⟨G l, j, none⟩) (h.row l hl).2.1).trans (h.fz l j hl hj)
theorem RGw.push {B : Nat} {W W2 : World} {n i : Nat} {G C : Nat → Nat} {M : Nat → Nat → Int} {rv : Value} {g cp q cap : Nat} (h : RGw B W n i G C M rv) (hr : NRow B n W g cp (M i)) (n1 : ∀ l, l < i → G l ≠ g) (n2 : rv.ownBlock ≠ some g)
  (ho : W2.ownsRow B 22 1 (.slice (some ⟨q, 0, none⟩) (i + 1) cap) (i + 1) (((List.range i).map fun l => Value.slice (some ⟨G l, 0, none⟩) n (C l)) ++ [.slice (some ⟨g, 0, none⟩) n cp])) (hg : W.grownBy W2 rv.ownBlock) (ha : rv.ownBlock = some q ∨ q = W.heap.size) :
  RGw B W2 n (i + 1) (updN G i g) (updN C i cp) M (.slice (some ⟨q, 0, none⟩) (i + 1) cap) := by
 have oo : Only (fun c => rv.ownBlock = some c) W W2 := grown_only (Below.refl W.heap.size W) hg
 have far : ∀ c, c < W.heap.size → rv.ownBlock ≠ some c → (Value.slice (some ⟨q, 0, none⟩) (i + 1) cap).ownBlock ≠ some c := fun c hc hn e => by
  have e2 : q = c := by simpa [Value.ownBlock] using e
  rcases ha with ha | ha
  ·exact hn (by rw [ha, e2])
  ·omega
 have row := hr.only oo n2
 have pick : ∀ l, l < i + 1 → (l = i ∧ updN G i g l = g ∧ updN C i cp l = cp) ∨ (l < i ∧ updN G i g l = G l ∧ updN C i cp l = C l) := fun l hl => by
  unfold updN
  by_cases e : l = i
  ·exact .inl ⟨e, if_pos e, if_pos e⟩
  ·exact .inr ⟨by omega, if_neg e, if_neg e⟩
 refine ⟨by rw [row_list]; exact ho, fun l hl => ?_, fun l hl => ?_, fun l k hl hk e => ?_, fun l j hl hj => ?_, fun l j hl hj => ?_⟩
 ·rcases pick l hl with ⟨_, e1, _⟩ | ⟨h1, e1, _⟩
  ·rw [e1]; exact ⟨hr.lo, row.hb, far g hr.hb n2⟩
  ·rw [e1]; exact ⟨(h.row l h1).1, Nat.lt_of_lt_of_le (h.row l h1).2.1 oo.size, far _ (h.row l h1).2.1 (h.row l h1).2.2⟩
 ·rcases pick l hl with ⟨_, _, e1⟩ | ⟨h1, _, e1⟩
  ·rw [e1]; exact hr.cap
  ·rw [e1]; exact h.cap l h1
 ·rcases pick l hl with ⟨e0, e1, _⟩ | ⟨h1, e1, _⟩ <;> rcases pick k hk with ⟨f0, f1, _⟩ | ⟨k1, f1, _⟩ <;> rw [e1, f1] at e
  ·omega
  ·exact absurd e.symm (n1 k k1)
  ·exact absurd e (n1 l h1)
  ·exact h.inj l k h1 k1 e
 ·rcases pick l hl with ⟨e0, e1, _⟩ | ⟨h1, e1, _⟩
  ·rw [e1, e0]; exact row.cell j hj
  ·rw [e1, oo.cell (p := ⟨G l, j, none⟩) (h.row l h1).2.1 (h.row l h1).2.2]
   exact h.cell l j h1 hj
 ·rcases pick l hl with ⟨e0, e1, _⟩ | ⟨h1, e1, _⟩
  ·rw [e1]; exact row.fz j hj
  ·rw [e1, oo.frozen (p := ⟨G l, j, none⟩) (h.row l h1).2.1 (h.row l h1).2.2]
   exact h.fz l j h1 hj
theorem RGw.grid {B : Nat} {W : World} {n R : Nat} {G C : Nat → Nat} {M : Nat → Nat → Int} {rv : Value} (h : RGw B W n R G C M rv) (hR : 0 < R) : ∃ b Cb, rv = .slice (some ⟨b, 0, none⟩) R Cb ∧ R ≤ Cb ∧ Grid B W b R n G C M := by
 have ho := h.own
 rcases h.own.2 with ⟨_, h0⟩ | ⟨b, Cb, cur, hv, hb, hg, hc, _⟩
 ·omega
 ·have rb : rv.ownBlock = some b := by rw [hv]; rfl
  refine ⟨b, Cb, hv, hc, ⟨hb, (Array.getElem?_eq_some_iff.1 hg).1, fun i hi => ?_, fun i hi => own_frozen ho rb i, fun i hi => ⟨(h.row i hi).1, (h.row i hi).2.1, fun e => (h.row i hi).2.2 (by rw [rb, e])⟩, h.cap, h.inj, h.cell, h.fz⟩⟩
  have := ho.cells rb i (.slice (some ⟨G i, 0, none⟩) n (C i)) (by simp [hi])
  rwa [show (⟨b, 0, none⟩ : Addr).add i = ⟨b, i, none⟩ by unfold Addr.add; split <;> simp_all] at this
theorem intsC_one (n : Nat) (f : Nat → Int) : ∀ u ∈ (List.range n).map (fun j => Value.int .i64 (f j)), u.oneCell' = true := by
 intro u hu
 obtain ⟨x, _, rfl⟩ := List.mem_map.1 hu
 rfl
theorem intsC_cells {W : World} {g o n : Nat} {f : Nat → Int} (h : ∀ j, j < n → W.cell? ⟨g, o + j, none⟩ = some (.int .i64 (f j))) : ∀ j u, ((List.range n).map fun j => Value.int .i64 (f j))[j]? = some u → W.cell? ((⟨g, o, none⟩ : Addr).add j) = some u := fun j u hu => by
 have hj : j < n := by
  rcases Nat.lt_or_ge j n with g | g
  ·exact g
  ·rw [List.getElem?_eq_none (by simpa using g)] at hu; cases hu
 simp [hj] at hu
 subst hu
 rw [show (⟨g, o, none⟩ : Addr).add j = ⟨g, o + j, none⟩ by unfold Addr.add; split <;> simp_all]
 exact h j hj
/-- The share of a number. -/
def shF (a D : Int) : Int × Int := ((makeT a D).1, (makeT a D).2.1)
theorem shF_eq (a D : Int) : makeT a D = ((shF a D).1, (shF a D).2, (makeT a D).2.2) := rfl
/-- A list of fractions that is read alone; nil, or empty, or not. -/
def IFr (W : World) (xa : Option Addr) (n : Nat) (X : Nat → Int × Int) : Prop := 0 < n → ∃ g o, xa = some ⟨g, o, none⟩ ∧ g < W.heap.size ∧ ∀ j, j < n → W.cell? ⟨g, o + j * 2, none⟩ = some (.int .i64 (X j).1) ∧ W.cell? ⟨g, o + j * 2 + 1, none⟩ = some (.int .i64 (X j).2)
theorem IFr.on {W W2 : World} {xa : Option Addr} {n : Nat} {X : Nat → Int × Int} (h : IFr W xa n X) (hb : Below W.heap.size W W2) : IFr W2 xa n X := fun hn => by
 obtain ⟨g, o, h1, h2, h3⟩ := h hn
 exact ⟨g, o, h1, Nat.lt_of_lt_of_le h2 hb.size, fun j hj => ⟨(hb.cell (p := ⟨g, o + j * 2, none⟩) h2).trans (h3 j hj).1, (hb.cell (p := ⟨g, o + j * 2 + 1, none⟩) h2).trans (h3 j hj).2⟩⟩
theorem FrX.ifr {W : World} {xb n : Nat} {F : Nat → Int × Int} (h : FrX W xb n F) : IFr W (some ⟨xb, 0, none⟩) n F := fun _ => ⟨xb, 0, rfl, h.hb, fun j hj => by
 simp only [Nat.zero_add]
 exact ⟨h.c0 j hj, h.c1 j hj⟩⟩
/-- The sum of the first numbers times the first fractions, added from the left to the right. -/
def comS (f : Nat → Int) (X : Nat → Int × Int) : Nat → Int × Int × Int
 | 0 => (0, 1, 0)
 | j + 1 => if (comS f X j).2.2 = 0 then (if (mulT (f j) 1 (X j).1 (X j).2).2.2 = 0 then addT (comS f X j).1 (comS f X j).2.1 (mulT (f j) 1 (X j).1 (X j).2).1 (mulT (f j) 1 (X j).1 (X j).2).2.1 else mulT (f j) 1 (X j).1 (X j).2) else comS f X j
theorem comS_stop {f : Nat → Int} {X : Nat → Int × Int} {j : Nat} (h : (comS f X j).2.2 ≠ 0) : ∀ d, comS f X (j + d) = comS f X j := by
 intro d
 induction d with
 | zero => rfl
 | succ d ih =>
  show (if (comS f X (j + d)).2.2 = 0 then (if (mulT (f (j + d)) 1 (X (j + d)).1 (X (j + d)).2).2.2 = 0 then addT (comS f X (j + d)).1 (comS f X (j + d)).2.1 (mulT (f (j + d)) 1 (X (j + d)).1 (X (j + d)).2).1 (mulT (f (j + d)) 1 (X (j + d)).1 (X (j + d)).2).2.1 else mulT (f (j + d)) 1 (X (j + d)).1 (X (j + d)).2) else comS f X (j + d)) = _
  rw [ih, if_neg h]
theorem comS_end {f : Nat → Int} {X : Nat → Int × Int} {j n : Nat} (h : (comS f X j).2.2 ≠ 0) (hj : j ≤ n) : comS f X n = comS f X j := by
 have := comS_stop h (n - j)
 rwa [show j + (n - j) = n by omega] at this
theorem mulT_ok {a b c d : Int} (h1 : Vld a b) (h2 : Vld c d) : (mulT a b c d).2.2 = 0 ∨ mulT a b c d = (0, 0, 5) := by
 unfold mulT
 rw [okT_vld h1 h2]
 rcases redT_cases (a * c) (b * d) (dpos h1 h2) with ⟨n, m, e, _⟩ | e
 ·exact .inl (by rw [e])
 ·exact .inr e
theorem addT_ok {a b c d : Int} (h1 : Vld a b) (h2 : Vld c d) : (addT a b c d).2.2 = 0 ∨ addT a b c d = (0, 0, 5) := by
 unfold addT
 rw [okT_vld h1 h2]
 rcases redT_cases (a * d + c * b) (b * d) (dpos h1 h2) with ⟨n, m, e, _⟩ | e
 ·exact .inl (by rw [e])
 ·exact .inr e
theorem i64_bd {x : Int} (h : (Lit.int .i64 x).wf = true) : -9223372036854775808 ≤ x ∧ x ≤ 9223372036854775807 := by
 simp [Lit.wf, IntKind.min, IntKind.max, IntKind.signed, IntKind.bits] at h
 exact ⟨by omega, by omega⟩
set_option maxRecDepth 100000 in
theorem open_frs {H : Type} {enc : TypeId × Value → H} {W : World} {base : Nat} {v : Value} {d : DataW H} {p : List MemPlace} (hval : Value.okWide Tryz.prog W .any base 28 v) (h : DataW.Trod enc Tryz.prog W 0 (fun _ => true) true 28 v d p) :
  ∃ (ao : Option Addr) (n cp : Nat) (X : Nat → Int × Int), v = .slice ao n cp ∧ IFr W ao n X ∧ (∀ k, k < n → FrI (X k)) ∧ n ≤ 9223372036854775807 := by
 obtain ⟨ao, len, cp, rfl⟩ := okWide_slice Tryz.underlying28 hval
 obtain ⟨fuel, hx⟩ := h
 rcases open_slice_pairs Tryz.underlying28 Tryz.underlying27 (by kernel_rfl) rfl rfl (by kernel_rfl) (by kernel_rfl) hx with ⟨hc, _⟩ | ⟨a, len2, cap2, m, k, V0, V1, D0, D1, P0, P1, hc, _, hl, hm, hmm, _, hall⟩
 ·simp [Value.cells] at hc
  obtain ⟨rfl, rfl, rfl⟩ := hc
  exact ⟨none, 0, 0, fun _ => (0, 1), rfl, fun h => by omega, fun k h => by omega, by omega⟩
 ·simp [Value.cells] at hc
  obtain ⟨rfl, rfl, rfl⟩ := hc
  simp only [if_true] at hmm
  subst hmm
  have each : ∀ i, i < m → ∃ q : Int × Int, V0 i = .int .i64 q.1 ∧ V1 i = .int .i64 q.2 ∧ FrI q := fun i hi => by
   obtain ⟨x, h1, _, w1⟩ := DataW.trod_int Tryz.underlying3 (hall i hi).2.2.1
   obtain ⟨y, h2, _, w2⟩ := DataW.trod_int Tryz.underlying3 (hall i hi).2.2.2
   simp only [List.cons.injEq, and_true] at h1 h2
   exact ⟨(x, y), h1, h2, ⟨(i64_bd w1).1, (i64_bd w1).2, (i64_bd w2).1, (i64_bd w2).2⟩⟩
  obtain ⟨q, hq⟩ := choose_lt each
  refine ⟨some a, len, m, q, rfl, fun hn => ?_, fun k hk => (hq k (by omega)).2.2, by unfold maxLen at hm; omega⟩
  obtain ⟨sb, so, spot⟩ := a
  have hspot : spot = none := by simpa [Addr.add] using World.cell?_spot (hall 0 (by omega)).1
  subst hspot
  have c0 := (hall 0 (by omega)).1
  refine ⟨sb, so, rfl, Lib.lt_of_cell (by simpa [Addr.add] using c0), fun k hk => ?_⟩
  have h1 := (hall k (by omega)).1
  have h2 := (hall k (by omega)).2.1
  obtain ⟨e1, e2, _⟩ := hq k (by omega)
  rw [e1] at h1
  rw [e2] at h2
  exact ⟨by simpa [Addr.add_lit] using h1, by simpa [Addr.add_lit, Nat.add_assoc] using h2⟩
end Go.Proofs.YtggpdhdbeokkcaaGreat
