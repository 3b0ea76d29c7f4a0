/- Layer 10: systems of ropes and blocks: which are valid; how they lie in memory. -/
import Derived.Test.YtcghjjfpjiacfaaDoorKL1
import Derived.Test.YtcghjjfpjiacfaaDoorKL2
import Derived.Maps.OwnSet
import Derived.Maps.OwnOps
namespace Go.Proofs.YtcghjjfpjiacfaaDoor
open Go.ChangeShapes Go.WideShapes Go.ChangeAt Go.RowKit Go.Joins Go.Deep Go.Shelf
set_option linter.unusedVariables false

/-- A hold: its block, its pulls, its loss. -/
structure Hld where
  blk : ByteArray
  pulls : Int
  num : Int
  den : Int
/-- A rope: its name, where its holds lie, the holds, whether it is hauled. -/
structure Rop where
  name : ByteArray
  ha : Option Addr
  n : Nat
  hc : Nat
  hs : Nat → Hld
  hauled : Bool
/-- A system: where its blocks and ropes lie, and what they are. -/
structure Sys where
  ba : Option Addr
  nb : Nat
  bc : Nat
  bn : Nat → ByteArray
  bw : Nat → Int
  ra : Option Addr
  nr : Nat
  rc : Nat
  R : Nat → Rop
def Hld.cs (h : Hld) : Array Value := #[.string h.blk, .int .i64 h.pulls, .int .i64 h.num, .int .i64 h.den]
def Hld.val (h : Hld) : Value := .agg #[.string h.blk, .int .i64 h.pulls, .int .i64 h.num, .int .i64 h.den]
def Rop.val (r : Rop) : Value := .agg #[.string r.name, .slice r.ha r.n r.hc, .bool r.hauled]
def Sys.val (s : Sys) : Value := .agg #[.slice s.ba s.nb s.bc, .slice s.ra s.nr s.rc]

/-- Where a string stands first. -/
def fstI (f : Nat → ByteArray) (x : ByteArray) : Nat → Option Nat
  | 0 => none
  | n + 1 => match fstI f x n with
    | some i => some i
    | none => if f n = x then some n else none
theorem fstI_some {f : Nat → ByteArray} {x : ByteArray} : ∀ {n i : Nat}, fstI f x n = some i → i < n ∧ f i = x ∧ ∀ j, j < i → f j ≠ x
  | 0, i, h => by cases h
  | n + 1, i, h => by
    unfold fstI at h
    cases e : fstI f x n with
    | some k =>
      rw [e] at h
      injection h with h
      subst h
      have := fstI_some e
      exact ⟨by omega, this.2⟩
    | none =>
      rw [e] at h
      simp only at h
      split at h
      · injection h with h
        subst h
        refine ⟨by omega, by assumption, fun j hj => ?_⟩
        have : ∀ (m : Nat), fstI f x m = none → ∀ j, j < m → f j ≠ x := by
          intro m
          induction m with
          | zero => intro _ j hj; omega
          | succ m ih =>
            intro hm j hj
            unfold fstI at hm
            cases e2 : fstI f x m with
            | some k => rw [e2] at hm; cases hm
            | none =>
              rw [e2] at hm
              simp only at hm
              split at hm
              · cases hm
              · rcases Nat.lt_or_ge j m with q | q
                · exact ih e2 j q
                · rw [show j = m by omega]; assumption
        exact this n e j hj
      · cases h
theorem fstI_none {f : Nat → ByteArray} {x : ByteArray} : ∀ {n : Nat}, fstI f x n = none ↔ ∀ j, j < n → f j ≠ x
  | 0 => by simp [fstI]
  | n + 1 => by
    have ih := @fstI_none f x n
    unfold fstI
    constructor
    · intro h j hj
      cases e : fstI f x n with
      | some k => rw [e] at h; cases h
      | none =>
        rw [e] at h
        simp only at h
        split at h
        · cases h
        · rcases Nat.lt_or_ge j n with q | q
          · exact ih.1 e j q
          · rw [show j = n by omega]; assumption
    · intro h
      rw [ih.2 fun j hj => h j (by omega)]
      simp only
      rw [if_neg (h n (by omega))]
theorem fstI_is {f : Nat → ByteArray} {x : ByteArray} {n i : Nat} (hi : i < n) (e : f i = x) (h : ∀ j, j < i → f j ≠ x) : fstI f x n = some i := by
  cases e2 : fstI f x n with
  | none => exact absurd e (fstI_none.1 e2 i hi)
  | some k =>
    have ⟨h1, h2, h3⟩ := fstI_some e2
    rcases Nat.lt_trichotomy k i with q | q | q
    · exact absurd h2 (h k q)
    · rw [q]
    · exact absurd e (h3 i q)
/-- The index, or -1. -/
def fbI (f : Nat → ByteArray) (x : ByteArray) (n : Nat) : Int := match fstI f x n with | some i => (i : Int) | none => -1
def knB (f : Nat → ByteArray) (n : Nat) (x : ByteArray) : Bool := (fstI f x n).isSome
theorem knB_iff {f : Nat → ByteArray} {n : Nat} {x : ByteArray} : knB f n x = true ↔ ∃ i, i < n ∧ f i = x := by
  unfold knB
  cases e : fstI f x n with
  | none =>
    simp
    intro i hi
    exact fstI_none.1 e i hi
  | some i =>
    have := fstI_some e
    simp
    exact ⟨i, this.1, this.2.1⟩
theorem fbI_neg {f : Nat → ByteArray} {n : Nat} {x : ByteArray} : fbI f x n < 0 ↔ knB f n x = false := by
  unfold fbI knB
  cases fstI f x n <;> simp
theorem fbI_eq {f : Nat → ByteArray} {n i : Nat} (hi : i < n) : fbI f (f i) n = (i : Int) ↔ ∀ j, j < i → f j ≠ f i := by
  unfold fbI
  cases e : fstI f (f i) n with
  | none => exact absurd rfl (fstI_none.1 e i hi)
  | some k =>
    have ⟨h1, h2, h3⟩ := fstI_some e
    simp only
    constructor
    · intro q
      have : k = i := by omega
      subst this
      exact h3
    · intro q
      rcases Nat.lt_trichotomy k i with g | g | g
      · exact absurd h2 (q k g)
      · rw [g]
      · exact absurd rfl (h3 i g)

def pulE (p : Int) : Bool := p == 1 || p == -1
def pulS (p : Int) : Bool := p == 2 || (p == 0 || p == -2)
def losS (n d : Int) : Bool := vB n d && (decide (d ≤ n) && decide (n ≤ 100))
/-- Whether a hold is right; k: whether its block is known, e: whether it is an end. -/
def plB (k : Bool) (h : Hld) (e : Bool) : Bool := if h.blk = ByteArray.empty then h.pulls == 0 else k && (if e then pulE h.pulls else pulS h.pulls)
def hldB (k : Bool) (h : Hld) (e : Bool) : Bool := plB k h e && (if e then (h.num == 1 && h.den == 1) else losS h.num h.den)
structure RopOk (kn : ByteArray → Bool) (r : Rop) : Prop where
  l2 : 2 ≤ r.n
  l10 : r.n ≤ 10
  hs : ∀ i, i < r.n → hldB (kn (r.hs i).blk) (r.hs i) (decide (i = 0 ∨ i + 1 = r.n)) = true
  hl : r.hauled = true → (r.hs (r.n - 1)).blk = ByteArray.empty
/-- How many of the first ropes are hauled. -/
def cntH (R : Nat → Rop) : Nat → Nat
  | 0 => 0
  | k + 1 => cntH R k + (if (R k).hauled then 1 else 0)
theorem cntH_le (R : Nat → Rop) : ∀ k, cntH R k ≤ k
  | 0 => Nat.le_refl _
  | k + 1 => by have := cntH_le R k; unfold cntH; split <;> omega
def Sys.nm (s : Sys) (k : Nat) : ByteArray := if k < s.nb then s.bn k else (s.R (k - s.nb)).name
structure SysOk (s : Sys) : Prop where
  b1 : 1 ≤ s.nb
  b6 : s.nb ≤ 6
  r1 : 1 ≤ s.nr
  r6 : s.nr ≤ 6
  nam : ∀ k, k < s.nb + s.nr → namB (s.nm k).data.toList = true
  dis : ∀ k, k < s.nb + s.nr → ∀ j, j < k → s.nm j ≠ s.nm k
  wt : ∀ i, i < s.nb → 0 ≤ s.bw i ∧ s.bw i ≤ 16777216
  rop : ∀ k, k < s.nr → RopOk (knB s.bn s.nb) (s.R k)
  one : cntH s.R s.nr ≤ 1
/-- A small system: few parts, short names. -/
structure SysSm (s : Sys) : Prop where
  b : s.nb ≤ 9
  r : s.nr ≤ 9
  h : ∀ k, k < s.nr → (s.R k).n ≤ 13
  bn : ∀ i, i < s.nb → (s.bn i).size ≤ 60
  rn : ∀ k, k < s.nr → (s.R k).name.size ≤ 60
  hn : ∀ k, k < s.nr → ∀ i, i < (s.R k).n → ((s.R k).hs i).blk.size ≤ 60
def i64r (n : Int) : Prop := -9223372036854775808 ≤ n ∧ n ≤ 9223372036854775807
structure HldRg (h : Hld) : Prop where
  p : i64r h.pulls
  n : i64r h.num
  d : i64r h.den
/-- All integers fit the machine's. -/
structure SysRg (s : Sys) : Prop where
  w : ∀ i, i < s.nb → i64r (s.bw i)
  h : ∀ k, k < s.nr → ∀ i, i < (s.R k).n → HldRg ((s.R k).hs i)
  bc : s.nb ≤ s.bc ∧ s.bc ≤ 9223372036854775807
  rc : s.nr ≤ s.rc ∧ s.rc ≤ 9223372036854775807
  hc : ∀ k, k < s.nr → (s.R k).n ≤ (s.R k).hc ∧ (s.R k).hc ≤ 9223372036854775807

/-- Blocks as they lie. -/
def BlkR (W : World) (ra : Option Addr) (n : Nat) (f : Nat → ByteArray) (g : Nat → Int) : Prop := 0 < n → ∃ b o, ra = some ⟨b, o, none⟩ ∧ b < W.heap.size ∧ ∀ i, i < n → W.cell? ⟨b, o + i * 2, none⟩ = some (.string (f i)) ∧ W.cell? ⟨b, o + i * 2 + 1, none⟩ = some (.int .i64 (g i))
theorem BlkR.on {W W2 : World} {ra : Option Addr} {n : Nat} {f : Nat → ByteArray} {g : Nat → Int} (h : BlkR W ra n f g) (hb : Below W.heap.size W W2) : BlkR W2 ra n f g := fun hn => by
  obtain ⟨b, o, h1, h2, h3⟩ := h hn
  exact ⟨b, o, h1, Nat.lt_of_lt_of_le h2 hb.size, fun i hi => ⟨(hb.cell (p := ⟨b, o + i * 2, none⟩) h2).trans (h3 i hi).1, (hb.cell (p := ⟨b, o + i * 2 + 1, none⟩) h2).trans (h3 i hi).2⟩⟩
/-- Holds as they lie. -/
def HolR (W : World) (ra : Option Addr) (n : Nat) (f : Nat → Hld) : Prop := 0 < n → ∃ b o, ra = some ⟨b, o, none⟩ ∧ b < W.heap.size ∧ ∀ i, i < n → W.cell? ⟨b, o + i * 4, none⟩ = some (.string (f i).blk) ∧ W.cell? ⟨b, o + i * 4 + 1, none⟩ = some (.int .i64 (f i).pulls) ∧ W.cell? ⟨b, o + i * 4 + 2, none⟩ = some (.int .i64 (f i).num) ∧ W.cell? ⟨b, o + i * 4 + 3, none⟩ = some (.int .i64 (f i).den)
theorem HolR.on {W W2 : World} {ra : Option Addr} {n : Nat} {f : Nat → Hld} (h : HolR W ra n f) (hb : Below W.heap.size W W2) : HolR W2 ra n f := fun hn => by
  obtain ⟨b, o, h1, h2, h3⟩ := h hn
  exact ⟨b, o, h1, Nat.lt_of_lt_of_le h2 hb.size, fun i hi => ⟨(hb.cell (p := ⟨b, o + i * 4, none⟩) h2).trans (h3 i hi).1, (hb.cell (p := ⟨b, o + i * 4 + 1, none⟩) h2).trans (h3 i hi).2.1, (hb.cell (p := ⟨b, o + i * 4 + 2, none⟩) h2).trans (h3 i hi).2.2.1, (hb.cell (p := ⟨b, o + i * 4 + 3, none⟩) h2).trans (h3 i hi).2.2.2⟩⟩
/-- Ropes as they lie, without their holds. -/
def RopL (W : World) (ra : Option Addr) (n : Nat) (R : Nat → Rop) : Prop := 0 < n → ∃ b o, ra = some ⟨b, o, none⟩ ∧ b < W.heap.size ∧ ∀ i, i < n → W.cell? ⟨b, o + i * 3, none⟩ = some (.string (R i).name) ∧ W.cell? ⟨b, o + i * 3 + 1, none⟩ = some (.slice (R i).ha (R i).n (R i).hc) ∧ W.cell? ⟨b, o + i * 3 + 2, none⟩ = some (.bool (R i).hauled)
theorem RopL.on {W W2 : World} {ra : Option Addr} {n : Nat} {R : Nat → Rop} (h : RopL W ra n R) (hb : Below W.heap.size W W2) : RopL W2 ra n R := fun hn => by
  obtain ⟨b, o, h1, h2, h3⟩ := h hn
  exact ⟨b, o, h1, Nat.lt_of_lt_of_le h2 hb.size, fun i hi => ⟨(hb.cell (p := ⟨b, o + i * 3, none⟩) h2).trans (h3 i hi).1, (hb.cell (p := ⟨b, o + i * 3 + 1, none⟩) h2).trans (h3 i hi).2.1, (hb.cell (p := ⟨b, o + i * 3 + 2, none⟩) h2).trans (h3 i hi).2.2⟩⟩
/-- Ropes with their holds. -/
structure RopR (W : World) (ra : Option Addr) (n : Nat) (R : Nat → Rop) : Prop where
  l : RopL W ra n R
  h : ∀ k, k < n → HolR W (R k).ha (R k).n (R k).hs
theorem RopR.on {W W2 : World} {ra : Option Addr} {n : Nat} {R : Nat → Rop} (h : RopR W ra n R) (hb : Below W.heap.size W W2) : RopR W2 ra n R := ⟨h.l.on hb, fun k hk => (h.h k hk).on hb⟩
structure Sys.At (s : Sys) (W : World) : Prop where
  b : BlkR W s.ba s.nb s.bn s.bw
  r : RopR W s.ra s.nr s.R
theorem Sys.At.on {s : Sys} {W W2 : World} (h : s.At W) (hb : Below W.heap.size W W2) : s.At W2 := ⟨h.b.on hb, h.r.on hb⟩

/-- Blocks of two, three, four cells. -/
structure C2 (W : World) (b : Nat) (x y : Value) : Prop where
  lt : b < W.heap.size
  c0 : W.cell? ⟨b, 0, none⟩ = some x
  c1 : W.cell? ⟨b, 1, none⟩ = some y
theorem C2.on {W W2 : World} {b : Nat} {x y : Value} (h : C2 W b x y) (hb : Below W.heap.size W W2) : C2 W2 b x y :=
  ⟨Nat.lt_of_lt_of_le h.lt hb.size, (hb.cell (p := ⟨b, 0, none⟩) h.lt).trans h.c0, (hb.cell (p := ⟨b, 1, none⟩) h.lt).trans h.c1⟩
theorem C2.new (w : World) (x y : Value) (t : TypeId) : C2 (w.alloc (.cells #[x, y] t)) w.heap.size x y := ⟨by simp, by simp, by simp⟩
structure C3 (W : World) (b : Nat) (x y z : Value) : Prop where
  lt : b < W.heap.size
  c0 : W.cell? ⟨b, 0, none⟩ = some x
  c1 : W.cell? ⟨b, 1, none⟩ = some y
  c2 : W.cell? ⟨b, 2, none⟩ = some z
theorem C3.on {W W2 : World} {b : Nat} {x y z : Value} (h : C3 W b x y z) (hb : Below W.heap.size W W2) : C3 W2 b x y z :=
  ⟨Nat.lt_of_lt_of_le h.lt hb.size, (hb.cell (p := ⟨b, 0, none⟩) h.lt).trans h.c0, (hb.cell (p := ⟨b, 1, none⟩) h.lt).trans h.c1, (hb.cell (p := ⟨b, 2, none⟩) h.lt).trans h.c2⟩
theorem C3.new (w : World) (x y z : Value) (t : TypeId) : C3 (w.alloc (.cells #[x, y, z] t)) w.heap.size x y z := ⟨by simp, by simp, by simp, by simp⟩
structure C4 (W : World) (b : Nat) (x y z u : Value) : Prop where
  lt : b < W.heap.size
  c0 : W.cell? ⟨b, 0, none⟩ = some x
  c1 : W.cell? ⟨b, 1, none⟩ = some y
  c2 : W.cell? ⟨b, 2, none⟩ = some z
  c3 : W.cell? ⟨b, 3, none⟩ = some u
theorem C4.on {W W2 : World} {b : Nat} {x y z u : Value} (h : C4 W b x y z u) (hb : Below W.heap.size W W2) : C4 W2 b x y z u :=
  ⟨Nat.lt_of_lt_of_le h.lt hb.size, (hb.cell (p := ⟨b, 0, none⟩) h.lt).trans h.c0, (hb.cell (p := ⟨b, 1, none⟩) h.lt).trans h.c1, (hb.cell (p := ⟨b, 2, none⟩) h.lt).trans h.c2, (hb.cell (p := ⟨b, 3, none⟩) h.lt).trans h.c3⟩
theorem C4.new (w : World) (x y z u : Value) (t : TypeId) : C4 (w.alloc (.cells #[x, y, z, u] t)) w.heap.size x y z u := ⟨by simp, by simp, by simp, by simp, by simp⟩
end Go.Proofs.YtcghjjfpjiacfaaDoor
