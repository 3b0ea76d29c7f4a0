/- Layer 5: the first table of a program is made. -/
import Derived.Test.YtggpdhdbeokkcaaGreatPMem
import Derived.Test.YtggpdhdbeokkcaaGreatPInit
import Derived.Test.YtggpdhdbeokkcaaGreatREach
namespace Go.Proofs.YtggpdhdbeokkcaaGreat
set_option linter.unusedVariables false
open Go.RowKit Go.Shelf

/-- A program as it lies in memory, valid or not. -/
structure PgD where
 ca : Option Addr
 n : Nat
 cc : Nat
 C : Nat → Int
 ra : Option Addr
 m : Nat
 rc : Nat
 Ca : Nat → Option Addr
 Ln : Nat → Nat
 Kc : Nat → Nat
 Z : Nat → Nat → Int
 Kd : Nat → Int
 Rt : Nat → Int
def PgD.val (p : PgD) : Value := .agg #[.slice p.ca p.n p.cc, .slice p.ra p.m p.rc]
structure PgD.At (p : PgD) (W : World) : Prop where
 cost : IRow W p.ca p.n p.C
 rows : 0 < p.m → ∃ g o, p.ra = some ⟨g, o, none⟩ ∧ g < W.heap.size ∧ ∀ i, i < p.m → W.cell? ⟨g, o + i * 3, none⟩ = some (.slice (p.Ca i) (p.Ln i) (p.Kc i)) ∧ W.cell? ⟨g, o + i * 3 + 1, none⟩ = some (.int .i64 (p.Kd i)) ∧ W.cell? ⟨g, o + i * 3 + 2, none⟩ = some (.int .i64 (p.Rt i))
 coef : ∀ i, i < p.m → IRow W (p.Ca i) (p.Ln i) (p.Z i)
theorem PgD.At.on {p : PgD} {W W2 : World} (h : p.At W) (hb : Below W.heap.size W W2) : p.At W2 where
 cost := h.cost.on hb
 rows hm := by
  obtain ⟨g, o, h1, h2, h3⟩ := h.rows hm
  exact ⟨g, o, h1, Nat.lt_of_lt_of_le h2 hb.size, fun i hi => ⟨(hb.cell (p := ⟨g, o + i * 3, none⟩) h2).trans (h3 i hi).1, (hb.cell (p := ⟨g, o + i * 3 + 1, none⟩) h2).trans (h3 i hi).2.1, (hb.cell (p := ⟨g, o + i * 3 + 2, none⟩) h2).trans (h3 i hi).2.2⟩⟩
 coef i hi := (h.coef i hi).on hb
/-- Which programs are valid. -/
structure PgD.Ok (p : PgD) : Prop where
 n1 : 1 ≤ p.n
 n2 : p.n ≤ 12
 m2 : p.m ≤ 6
 c : ∀ j, j < p.n → -1048576 ≤ p.C j ∧ p.C j ≤ 1048576
 l : ∀ i, i < p.m → p.Ln i = p.n
 z : ∀ i, i < p.m → ∀ j, j < p.n → -1048576 ≤ p.Z i j ∧ p.Z i j ≤ 1048576
 k : ∀ i, i < p.m → 1 ≤ p.Kd i ∧ p.Kd i ≤ 3
 r : ∀ i, i < p.m → -1073741824 ≤ p.Rt i ∧ p.Rt i ≤ 1073741824

theorem wp_make_own {P : Program} (w : World) {o : Oper} {a : Act} {K : Act → World → Prop} {Q : Exit → Act → World → Prop}
  (l c : Operand) (t : TypeId) (hop : o.op = Op.makeSlice t l c)
  (base : Nat) (e : TypeId) (i : TypeInfo) (z : Value) (size : Nat) (h1 : P.underlying t = some (.slice e)) (h2 : P.info? e = some i) (h3 : i.zero = some z) (h4 : i.size = size)
  (kl kc : IntKind) (L C : Int) (n : Nat) (hl : a.eval l = .int kl L) (hc : a.eval c = .int kc C) (hL : L = (n : Int)) (hC : C = (n : Int)) (b2 : i.bytes * n ≤ 281474976710656) (b3 : n ≤ maxLen) (b4 : base ≤ w.heap.size)
  (hK : ∀ w', w'.ownsRow base e size (.slice (some ⟨w.heap.size, 0, none⟩) n n) n (madeCells z.cells (n * size)).toList → w.grownBy w' none → K (a.put o.dst (.slice (some ⟨w.heap.size, 0, none⟩) n n)) w') :
  Oper.wp P o a w K Q := by
 obtain ⟨w', hrun, r1, r2⟩ := run_make_full (P := P) w base t e i z size h1 h2 h3 h4 kl kc n b2 b3 b4
 subst hL
 subst hC
 unfold Oper.wp
 simp [execOp, hop, hl, hc, hrun, Result.andThen]
 exact hK w' r1 r2

/-- A row of zeros, whole. -/
def ZRow (lo : Nat) (W : World) (g wd : Nat) : Prop := lo ≤ g ∧ W.heap[g]? = some (.cells ((List.range wd).map fun _ => Value.int .i64 0).toArray 3 (0, 0))
theorem ZRow.of {lo base : Nat} {W : World} {g n : Nat} (h : W.ownsRow base 3 1 (.slice (some ⟨g, 0, none⟩) n n) n (madeCells (Value.int .i64 0).cells (n * 1)).toList) (hl : lo ≤ g) : ZRow lo W g n := by
 refine ⟨hl, ?_⟩
 rcases h.2 with ⟨h1, _⟩ | ⟨g2, cap, cur, hv, _, hg, _, _, hs, ht⟩
 ·cases h1
 ·injection hv with e1 _ e3
  injection e1 with e1
  injection e1 with e1
  subst e1; subst e3
  rw [hg]
  have e2 : cur.toList = (List.range n).map fun _ => Value.int .i64 0 := by
   rw [List.take_of_length_le (by simp [hs])] at ht
   rw [ht, show (Value.int .i64 0).cells = #[Value.int .i64 0] by rfl, Nat.mul_one, toList_madeCells_one]
   simp [List.map_const']
  rw [← e2, Array.toArray_toList]
theorem ZRow.on {lo : Nat} {W W2 : World} {g wd : Nat} (h : ZRow lo W g wd) (hb : Below W.heap.size W W2) : ZRow lo W2 g wd := ⟨h.1, by rw [hb.block g (Array.getElem?_eq_some_iff.1 h.2).1]; exact h.2⟩
theorem ZRow.lt {lo : Nat} {W : World} {g wd : Nat} (h : ZRow lo W g wd) : g < W.heap.size := (Array.getElem?_eq_some_iff.1 h.2).1
theorem row_heap {lo : Nat} {W : World} {g wd : Nat} {f : Nat → Int} (hl : lo ≤ g) (h : W.heap[g]? = some (.cells ((List.range wd).map fun j => Value.int .i64 (f j)).toArray 3 (0, 0))) : NRow lo wd W g wd f :=
 ⟨hl, (Array.getElem?_eq_some_iff.1 h).1, Nat.le_refl _, fun j hj => by simp [World.cell?, h, hj], fun j hj => by simp [World.frozen?, h]⟩
theorem splice_row (n wd : Nat) (f : Nat → Int) (h : n ≤ wd) : splice ((List.range wd).map fun _ => Value.int .i64 0) 0 ((List.range n).map fun j => Value.int .i64 (f j)) = (List.range wd).map fun j => Value.int .i64 (if j < n then f j else 0) := by
 unfold splice
 apply List.ext_getElem
 ·simp; omega
 ·intro i h1 h2
  simp at h2
  by_cases g : i < n
  ·simp [g]
  ·rw [List.getElem_map, List.getElem_range, if_neg g]
   simp only [List.take_zero, List.nil_append]
   rw [List.getElem_append_right (by simpa using g)]
   simp

/-- The table while it is made: ir rows, ib numbers of the basis, js signs have been appended. -/
structure NewI (p : PgD) (w0 W : World) (xb tb cg lg wd ir ib js : Nat) (G C : Nat → Nat) (Lf : Nat → Int) (rv bv sv : Value) : Prop where
 b : Below w0.heap.size w0 W
 x : Blk W xb (.slice p.ca p.n p.cc) (.slice p.ra p.m p.rc)
 t : TBlk W tb rv bv sv (.int .i64 1) (.int .i64 (p.n : Nat))
 tl : w0.heap.size ≤ tb
 c : NRow w0.heap.size wd W cg wd (c0F p.n p.C)
 l : NRow w0.heap.size wd W lg wd Lf
 r : RGw w0.heap.size W wd ir G C (tabA p.n p.m p.Z p.Kd p.Rt) rv
 o1 : W.ownsRow w0.heap.size 3 1 bv ib ((List.range ib).map fun l => Value.int .i64 ((p.n + p.m + l : Nat) : Int))
 o2 : W.ownsRow w0.heap.size 3 1 sv js ((List.range js).map fun l => Value.int .i64 (sgR (p.Rt l)))
 d : xb ≠ tb ∧ xb ≠ cg ∧ xb ≠ lg ∧ tb ≠ cg ∧ tb ≠ lg ∧ cg ≠ lg
 ap : ∀ q, (q = xb ∨ q = tb ∨ q = cg ∨ q = lg) → rv.ownBlock ≠ some q ∧ bv.ownBlock ≠ some q ∧ sv.ownBlock ≠ some q ∧ ∀ l, l < ir → G l ≠ q
 aq : ∀ q, rv.ownBlock = some q → bv.ownBlock ≠ some q ∧ sv.ownBlock ≠ some q
 ar : ∀ q, bv.ownBlock = some q → sv.ownBlock ≠ some q ∧ ∀ l, l < ir → G l ≠ q
 ao : ∀ q, sv.ownBlock = some q → ∀ l, l < ir → G l ≠ q
section
variable {p : PgD} {w0 W W2 : World} {xb tb cg lg wd ir ib js : Nat} {G C : Nat → Nat} {Lf : Nat → Int} {rv bv sv : Value}
theorem Blk.only {S : Nat → Prop} {b : Nat} {v0 v1 : Value} (h : Blk W b v0 v1) (ho : Only S W W2) (hn : ¬ S b) : Blk W2 b v0 v1 :=
 ⟨Nat.lt_of_lt_of_le h.1 ho.size, (ho.cell (p := ⟨b, 0, none⟩) h.1 hn).trans h.2.1, (ho.cell (p := ⟨b, 1, none⟩) h.1 hn).trans h.2.2⟩
theorem RGw.only {S : Nat → Prop} {B n i : Nat} {M : Nat → Nat → Int} (h : RGw B W n i G C M rv) (ho : Only S W W2) (hn : ∀ q, rv.ownBlock = some q → ¬ S q) (hg : ∀ l, l < i → ¬ S (G l)) : RGw B W2 n i G C M rv :=
 ⟨own_only h.own ho hn, fun l hl => ⟨(h.row l hl).1, Nat.lt_of_lt_of_le (h.row l hl).2.1 ho.size, (h.row l hl).2.2⟩, h.cap, h.inj, fun l j hl hj => (ho.cell (p := ⟨G l, j, none⟩) (h.row l hl).2.1 (hg l hl)).trans (h.cell l j hl hj), fun l j hl hj => (ho.frozen (p := ⟨G l, j, none⟩) (h.row l hl).2.1 (hg l hl)).trans (h.fz l j hl hj)⟩
theorem NewI.on (h : NewI p w0 W xb tb cg lg wd ir ib js G C Lf rv bv sv) (hb : Below W.heap.size W W2) : NewI p w0 W2 xb tb cg lg wd ir ib js G C Lf rv bv sv :=
 ⟨below_on h.b hb, h.x.on hb, h.t.on hb, h.tl, h.c.on hb, h.l.on hb, h.r.on hb, own_only h.o1 (Only.of_below (S := fun _ => False) hb) (fun _ _ q => q), own_only h.o2 (Only.of_below (S := fun _ => False) hb) (fun _ _ q => q), h.d, h.ap, h.aq, h.ar, h.ao⟩
/-- The lacks have changed. -/
theorem NewI.lack {L2 : Nat → Int} (h : NewI p w0 W xb tb cg lg wd ir ib js G C Lf rv bv sv) (ho : Only (fun q => q = lg) W W2) (hl : NRow w0.heap.size wd W2 lg wd L2) : NewI p w0 W2 xb tb cg lg wd ir ib js G C L2 rv bv sv := by
 have a := h.ap lg (.inr (.inr (.inr rfl)))
 have d := h.d
 refine ⟨h.b.trans (ho.below h.b.size (fun q hq => by rw [hq]; exact h.l.lo)), h.x.only ho d.2.2.1, h.t.only ho d.2.2.2.2.1, h.tl, h.c.only ho d.2.2.2.2.2, hl, h.r.only ho (fun q hq e => a.1 (by rw [hq, e])) (fun l hl e => a.2.2.2 l hl e), own_only h.o1 ho (fun q hq e => a.2.1 (by rw [hq, e])), own_only h.o2 ho (fun q hq e => a.2.2.1 (by rw [hq, e])), h.d, h.ap, h.aq, h.ar, h.ao⟩
/-- A block that is no part of it has changed. -/
theorem NewI.far {g : Nat} (h : NewI p w0 W xb tb cg lg wd ir ib js G C Lf rv bv sv) (ho : Only (fun q => q = g) W W2) (hg : w0.heap.size ≤ g) (f1 : ∀ l, l < ir → G l ≠ g) (f2 : rv.ownBlock ≠ some g) (f3 : bv.ownBlock ≠ some g) (f4 : sv.ownBlock ≠ some g) (f5 : xb ≠ g ∧ tb ≠ g ∧ cg ≠ g ∧ lg ≠ g) : NewI p w0 W2 xb tb cg lg wd ir ib js G C Lf rv bv sv :=
 ⟨h.b.trans (ho.below h.b.size (fun q hq => by rw [hq]; exact hg)), h.x.only ho f5.1, h.t.only ho f5.2.1, h.tl, h.c.only ho f5.2.2.1, h.l.only ho f5.2.2.2, h.r.only ho (fun q hq e => f2 (by rw [hq, e])) (fun l hl e => f1 l hl e), own_only h.o1 ho (fun q hq e => f3 (by rw [hq, e])), own_only h.o2 ho (fun q hq e => f4 (by rw [hq, e])), h.d, h.ap, h.aq, h.ar, h.ao⟩
/-- A new block is no part of it. -/
theorem NewI.fresh {g : Nat} (h : NewI p w0 W xb tb cg lg wd ir ib js G C Lf rv bv sv) (hg : W.heap.size ≤ g) : (∀ l, l < ir → G l ≠ g) ∧ rv.ownBlock ≠ some g ∧ bv.ownBlock ≠ some g ∧ sv.ownBlock ≠ some g ∧ xb ≠ g ∧ tb ≠ g ∧ cg ≠ g ∧ lg ≠ g :=
 ⟨fun l hl e => by have := (h.r.row l hl).2.1; omega, fun e => by have := (h.r.own.lt g e).2; omega, fun e => by have := (h.o1.lt g e).2; omega, fun e => by have := (h.o2.lt g e).2; omega,
  fun e => by have := h.x.1; omega, fun e => by have := h.t.hb; omega, fun e => by have := h.c.hb; omega, fun e => by have := h.l.hb; omega⟩
/-- A row has been appended. -/
theorem NewI.pushR {g cp q cap : Nat} (h : NewI p w0 W xb tb cg lg wd ir ib js G C Lf rv bv sv) (hr : NRow w0.heap.size wd W g cp (tabA p.n p.m p.Z p.Kd p.Rt ir)) (f1 : ∀ l, l < ir → G l ≠ g) (f2 : rv.ownBlock ≠ some g) (f3 : bv.ownBlock ≠ some g) (f4 : sv.ownBlock ≠ some g) (f5 : xb ≠ g ∧ tb ≠ g ∧ cg ≠ g ∧ lg ≠ g)
  (ho : W2.ownsRow w0.heap.size 22 1 (.slice (some ⟨q, 0, none⟩) (ir + 1) cap) (ir + 1) (((List.range ir).map fun l => Value.slice (some ⟨G l, 0, none⟩) wd (C l)) ++ [.slice (some ⟨g, 0, none⟩) wd cp])) (hg : W.grownBy W2 rv.ownBlock) (ha : rv.ownBlock = some q ∨ q = W.heap.size) :
  NewI p w0 (W2.setCell ⟨tb, 0, none⟩ (.slice (some ⟨q, 0, none⟩) (ir + 1) cap)) xb tb cg lg wd (ir + 1) ib js (updN G ir g) (updN C ir cp) Lf (.slice (some ⟨q, 0, none⟩) (ir + 1) cap) bv sv := by
 have oo : Only (fun c => rv.ownBlock = some c) W W2 := grown_only (Below.refl W.heap.size W) hg
 have ot := only_set W2 ⟨tb, 0, none⟩ (.slice (some ⟨q, 0, none⟩) (ir + 1) cap)
 have nx := h.ap xb (.inl rfl)
 have nt := h.ap tb (.inr (.inl rfl))
 have nc := h.ap cg (.inr (.inr (.inl rfl)))
 have nl := h.ap lg (.inr (.inr (.inr rfl)))
 have far : ∀ c, c < W.heap.size → rv.ownBlock ≠ some c → q ≠ c := fun c hc hn e => by
  rcases ha with ha | ha
  ·exact hn (by rw [ha, e])
  ·omega
 have qx := far xb h.x.1 nx.1
 have qt := far tb h.t.hb nt.1
 have qc := far cg h.c.hb nc.1
 have ql := far lg h.l.hb nl.1
 have qb : bv.ownBlock ≠ some q := fun e => by
  rcases ha with ha | ha
  ·exact (h.aq q ha).1 e
  ·have := (h.o1.lt q e).2; omega
 have qs : sv.ownBlock ≠ some q := fun e => by
  rcases ha with ha | ha
  ·exact (h.aq q ha).2 e
  ·have := (h.o2.lt q e).2; omega
 have own : ∀ x, (Value.slice (some ⟨q, 0, none⟩) (ir + 1) cap).ownBlock = some x → x = q := fun x hx => by simp [Value.ownBlock] at hx; exact hx.symm
 have r2 := h.r.push hr f1 f2 ho hg ha
 have pick : ∀ l, l < ir + 1 → updN G ir g l = g ∨ (l < ir ∧ updN G ir g l = G l) := fun l hl => by
  unfold updN
  by_cases e : l = ir
  ·exact .inl (if_pos e)
  ·exact .inr ⟨by omega, if_neg e⟩
 have dd := h.d
 refine ⟨((h.b.trans (oo.below h.b.size (fun c hc => (h.r.own.lt c hc).1)))).setCell h.tl _, (h.x.only oo nx.1).only ot dd.1, (h.t.only oo nt.1).set0 _, h.tl, (h.c.only oo nc.1).only ot (fun e => dd.2.2.2.1 e.symm), (h.l.only oo nl.1).only ot (fun e => dd.2.2.2.2.1 e.symm), r2.only ot (fun x hx e => qt (by rw [← own x hx]; exact e)) (fun l hl e => ?_), own_only (own_only h.o1 oo (fun x hx e => (h.aq x e).1 hx)) ot (fun x hx e => nt.2.1 (by rw [hx]; exact congrArg some e)), own_only (own_only h.o2 oo (fun x hx e => (h.aq x e).2 hx)) ot (fun x hx e => nt.2.2.1 (by rw [hx]; exact congrArg some e)), h.d, fun x hx => ?_, fun x hx => ?_, fun x hx => ?_, fun x hx => ?_⟩
 ·rcases pick l hl with e1 | ⟨h1, e1⟩
  ·exact f5.2.1 (by rw [← e1]; exact e.symm)
  ·exact nt.2.2.2 l h1 (by rw [← e1]; exact e)
 ·have a := h.ap x hx
  refine ⟨fun e => ?_, a.2.1, a.2.2.1, fun l hl => ?_⟩
  ·have := own x e
   subst this
   rcases hx with e2 | e2 | e2 | e2
   ·exact qx e2
   ·exact qt e2
   ·exact qc e2
   ·exact ql e2
  ·rcases pick l hl with e1 | ⟨h1, e1⟩
   ·rw [e1]
    rcases hx with rfl | rfl | rfl | rfl
    ·exact fun e => f5.1 e.symm
    ·exact fun e => f5.2.1 e.symm
    ·exact fun e => f5.2.2.1 e.symm
    ·exact fun e => f5.2.2.2 e.symm
   ·rw [e1]; exact a.2.2.2 l h1
 ·rw [own x hx]; exact ⟨qb, qs⟩
 ·refine ⟨(h.ar x hx).1, fun l hl => ?_⟩
  rcases pick l hl with e1 | ⟨h1, e1⟩
  ·rw [e1]; exact fun e => f3 (by rw [hx, e])
  ·rw [e1]; exact (h.ar x hx).2 l h1
 ·intro l hl
  rcases pick l hl with e1 | ⟨h1, e1⟩
  ·rw [e1]; exact fun e => f4 (by rw [hx, e])
  ·rw [e1]; exact h.ao x hx l h1
/-- A number of the basis has been appended. -/
theorem NewI.pushB {q cap : Nat} (h : NewI p w0 W xb tb cg lg wd ir ib js G C Lf rv bv sv)
  (ho : W2.ownsRow w0.heap.size 3 1 (.slice (some ⟨q, 0, none⟩) (ib + 1) cap) (ib + 1) (((List.range ib).map fun l => Value.int .i64 ((p.n + p.m + l : Nat) : Int)) ++ [.int .i64 ((p.n + p.m + ib : Nat) : Int)])) (hg : W.grownBy W2 bv.ownBlock) (ha : bv.ownBlock = some q ∨ q = W.heap.size) :
  NewI p w0 (W2.setCell ⟨tb, 1, none⟩ (.slice (some ⟨q, 0, none⟩) (ib + 1) cap)) xb tb cg lg wd ir (ib + 1) js G C Lf rv (.slice (some ⟨q, 0, none⟩) (ib + 1) cap) sv := by
 have oo : Only (fun c => bv.ownBlock = some c) W W2 := grown_only (Below.refl W.heap.size W) hg
 have ot := only_set W2 ⟨tb, 1, none⟩ (.slice (some ⟨q, 0, none⟩) (ib + 1) cap)
 have nx := h.ap xb (.inl rfl)
 have nt := h.ap tb (.inr (.inl rfl))
 have nc := h.ap cg (.inr (.inr (.inl rfl)))
 have nl := h.ap lg (.inr (.inr (.inr rfl)))
 have far : ∀ c, c < W.heap.size → bv.ownBlock ≠ some c → q ≠ c := fun c hc hn e => by
  rcases ha with ha | ha
  ·exact hn (by rw [ha, e])
  ·omega
 have qx := far xb h.x.1 nx.2.1
 have qt := far tb h.t.hb nt.2.1
 have qc := far cg h.c.hb nc.2.1
 have ql := far lg h.l.hb nl.2.1
 have qr : rv.ownBlock ≠ some q := fun e => by
  rcases ha with ha | ha
  ·exact (h.aq q e).1 ha
  ·have := (h.r.own.lt q e).2; omega
 have qs : sv.ownBlock ≠ some q := fun e => by
  rcases ha with ha | ha
  ·exact (h.ar q ha).1 e
  ·have := (h.o2.lt q e).2; omega
 have qg : ∀ l, l < ir → G l ≠ q := fun l hl e => by
  rcases ha with ha | ha
  ·exact (h.ar q ha).2 l hl e
  ·have := (h.r.row l hl).2.1; omega
 have own : ∀ x, (Value.slice (some ⟨q, 0, none⟩) (ib + 1) cap).ownBlock = some x → x = q := fun x hx => by simp [Value.ownBlock] at hx; exact hx.symm
 have dd := h.d
 refine ⟨((h.b.trans (oo.below h.b.size (fun c hc => (h.o1.lt c hc).1)))).setCell h.tl _, (h.x.only oo nx.2.1).only ot dd.1, (h.t.only oo nt.2.1).set1 _, h.tl, (h.c.only oo nc.2.1).only ot (fun e => dd.2.2.2.1 e.symm), (h.l.only oo nl.2.1).only ot (fun e => dd.2.2.2.2.1 e.symm), (h.r.only oo (fun x hx e => (h.aq x hx).1 e) (fun l hl e => (h.ar _ e).2 l hl rfl)).only ot (fun x hx e => nt.1 (by rw [hx]; exact congrArg some e)) (fun l hl e => nt.2.2.2 l hl e), ?_, own_only (own_only h.o2 oo (fun x hx e => (h.ar x e).1 hx)) ot (fun x hx e => nt.2.2.1 (by rw [hx]; exact congrArg some e)), h.d, fun x hx => ?_, fun x hx => ?_, fun x hx => ?_, h.ao⟩
 ·rw [List.range_succ, List.map_append]
  exact own_only ho ot (fun x hx e => qt (by rw [← own x hx]; exact e))
 ·have a := h.ap x hx
  refine ⟨a.1, fun e => ?_, a.2.2.1, a.2.2.2⟩
  have := own x e
  subst this
  rcases hx with e2 | e2 | e2 | e2
  ·exact qx e2
  ·exact qt e2
  ·exact qc e2
  ·exact ql e2
 ·refine ⟨fun e => qr (by rw [← own x e]; exact hx), (h.aq x hx).2⟩
 ·rw [own x hx]; exact ⟨qs, qg⟩
/-- A sign has been appended. -/
theorem NewI.pushS {q cap : Nat} (h : NewI p w0 W xb tb cg lg wd ir ib js G C Lf rv bv sv)
  (ho : W2.ownsRow w0.heap.size 3 1 (.slice (some ⟨q, 0, none⟩) (js + 1) cap) (js + 1) (((List.range js).map fun l => Value.int .i64 (sgR (p.Rt l))) ++ [.int .i64 (sgR (p.Rt js))])) (hg : W.grownBy W2 sv.ownBlock) (ha : sv.ownBlock = some q ∨ q = W.heap.size) :
  NewI p w0 (W2.setCell ⟨tb, 2, none⟩ (.slice (some ⟨q, 0, none⟩) (js + 1) cap)) xb tb cg lg wd ir ib (js + 1) G C Lf rv bv (.slice (some ⟨q, 0, none⟩) (js + 1) cap) := by
 have oo : Only (fun c => sv.ownBlock = some c) W W2 := grown_only (Below.refl W.heap.size W) hg
 have ot := only_set W2 ⟨tb, 2, none⟩ (.slice (some ⟨q, 0, none⟩) (js + 1) cap)
 have nx := h.ap xb (.inl rfl)
 have nt := h.ap tb (.inr (.inl rfl))
 have nc := h.ap cg (.inr (.inr (.inl rfl)))
 have nl := h.ap lg (.inr (.inr (.inr rfl)))
 have far : ∀ c, c < W.heap.size → sv.ownBlock ≠ some c → q ≠ c := fun c hc hn e => by
  rcases ha with ha | ha
  ·exact hn (by rw [ha, e])
  ·omega
 have qx := far xb h.x.1 nx.2.2.1
 have qt := far tb h.t.hb nt.2.2.1
 have qc := far cg h.c.hb nc.2.2.1
 have ql := far lg h.l.hb nl.2.2.1
 have qr : rv.ownBlock ≠ some q := fun e => by
  rcases ha with ha | ha
  ·exact (h.aq q e).2 ha
  ·have := (h.r.own.lt q e).2; omega
 have qb : bv.ownBlock ≠ some q := fun e => by
  rcases ha with ha | ha
  ·exact (h.ar q e).1 ha
  ·have := (h.o1.lt q e).2; omega
 have qg : ∀ l, l < ir → G l ≠ q := fun l hl e => by
  rcases ha with ha | ha
  ·exact h.ao q ha l hl e
  ·have := (h.r.row l hl).2.1; omega
 have own : ∀ x, (Value.slice (some ⟨q, 0, none⟩) (js + 1) cap).ownBlock = some x → x = q := fun x hx => by simp [Value.ownBlock] at hx; exact hx.symm
 have dd := h.d
 refine ⟨((h.b.trans (oo.below h.b.size (fun c hc => (h.o2.lt c hc).1)))).setCell h.tl _, (h.x.only oo nx.2.2.1).only ot dd.1, (h.t.only oo nt.2.2.1).set2 _, h.tl, (h.c.only oo nc.2.2.1).only ot (fun e => dd.2.2.2.1 e.symm), (h.l.only oo nl.2.2.1).only ot (fun e => dd.2.2.2.2.1 e.symm), (h.r.only oo (fun x hx e => (h.aq x hx).2 e) (fun l hl e => h.ao _ e l hl rfl)).only ot (fun x hx e => nt.1 (by rw [hx]; exact congrArg some e)) (fun l hl e => nt.2.2.2 l hl e), own_only (own_only h.o1 oo (fun x hx e => (h.ar x hx).1 e)) ot (fun x hx e => nt.2.1 (by rw [hx]; exact congrArg some e)), ?_, h.d, fun x hx => ?_, fun x hx => ?_, fun x hx => ?_, fun x hx => ?_⟩
 ·rw [List.range_succ, List.map_append]
  exact own_only ho ot (fun x hx e => qt (by rw [← own x hx]; exact e))
 ·have a := h.ap x hx
  refine ⟨a.1, a.2.1, fun e => ?_, a.2.2.2⟩
  have := own x e
  subst this
  rcases hx with e2 | e2 | e2 | e2
  ·exact qx e2
  ·exact qt e2
  ·exact qc e2
  ·exact ql e2
 ·exact ⟨(h.aq x hx).1, fun e => qr (by rw [← own x e]; exact hx)⟩
 ·exact ⟨fun e => qb (by rw [← own x e]; exact hx), (h.ar x hx).2⟩
 ·rw [own x hx]; exact qg
end

theorem only_row (W : World) (g : Nat) (cs : Array Value) : Only (fun q => q = g) W (W.setRow g cs) :=
 ⟨rfl, rfl, rfl, by simp [World.setRow], fun k _ hn => setRow_other W g k cs (fun e => hn e)⟩
theorem raw_bd {p : PgD} (hv : p.Ok) (i : Nat) (hi : i < p.m) (j : Nat) : -1073741824 ≤ sgR (p.Rt i) * rawA p.n p.m p.Z p.Kd p.Rt i j ∧ sgR (p.Rt i) * rawA p.n p.m p.Z p.Kd p.Rt i j ≤ 1073741824 := by
 have h : -1073741824 ≤ rawA p.n p.m p.Z p.Kd p.Rt i j ∧ rawA p.n p.m p.Z p.Kd p.Rt i j ≤ 1073741824 := by
  unfold rawA
  split
  ·rename_i g
   have := hv.z i hi j g
   omega
  ·split
   ·rcases slk_cases (p.Kd i) with g | g | g <;> rw [g] <;> decide
   ·split
    ·exact hv.r i hi
    ·decide
 rcases sgR_cases (p.Rt i) with g | g <;> rw [g] <;> omega
theorem lck_bd {p : PgD} (hv : p.Ok) (k : Nat) (hk : k ≤ p.m) (j : Nat) : -6442450944 ≤ lckL p.n p.m p.Z p.Kd p.Rt k j ∧ lckL p.n p.m p.Z p.Kd p.Rt k j ≤ 6442450944 := by
 unfold lckL
 have h := sumN_abs (n := k) (b := 1073741824) (f := fun l => sgR (p.Rt l) * rawA p.n p.m p.Z p.Kd p.Rt l j) (fun i hi => raw_bd hv i (by omega) j)
 have h2 := hv.m2
 omega
theorem lck_succ (n m : Nat) (Z : Nat → Nat → Int) (Kd Rt : Nat → Int) (k j : Nat) : lckL n m Z Kd Rt (k + 1) j = lckL n m Z Kd Rt k j - sgR (Rt k) * rawA n m Z Kd Rt k j := by
 unfold lckL
 show -(sumN k (fun l => sgR (Rt l) * rawA n m Z Kd Rt l j) + sgR (Rt k) * rawA n m Z Kd Rt k j) = _
 omega
theorem own_ownI {W : World} {base n : Nat} {v : Value} {f : Nat → Int} (h : W.ownsRow base 3 1 v n ((List.range n).map fun j => Value.int .i64 (f j))) : ∃ pa pc g, v = .slice pa n pc ∧ OwnI base W pa g n f ∧ (0 < n → v.ownBlock = some g) := by
 by_cases hn : 0 < n
 ·obtain ⟨g, cp, rfl, hN⟩ := own_nrow h hn
  exact ⟨_, _, g, rfl, ⟨fun _ => rfl, fun _ => hN.lo, fun _ => hN.hb, hN.cell, hN.fz⟩, fun _ => rfl⟩
 ·obtain ⟨pa, pc, hv⟩ := own_form h
  exact ⟨pa, pc, 0, hv, ⟨fun k => absurd k hn, fun k => absurd k hn, fun k => absurd k hn, fun i hi => by omega, fun i hi => by omega⟩, fun k => absurd k hn⟩
def finM (p : PgD) : Nat → Nat → Int := fun i j => if i < p.m then tabA p.n p.m p.Z p.Kd p.Rt i j else if i = p.m then c0F p.n p.C j else lckL p.n p.m p.Z p.Kd p.Rt p.m j
/-- The costs and the lacks have been appended: the table is whole. -/
theorem NewI.fin {p : PgD} {w0 W W2 : World} {xb tb cg lg wd : Nat} {G C : Nat → Nat} {rv bv sv : Value} {q cap : Nat} (h : NewI p w0 W xb tb cg lg wd p.m p.m p.m G C (lckL p.n p.m p.Z p.Kd p.Rt p.m) rv bv sv)
  (ho : W2.ownsRow w0.heap.size 22 1 (.slice (some ⟨q, 0, none⟩) (p.m + 2) cap) (p.m + 2) (((List.range p.m).map fun l => Value.slice (some ⟨G l, 0, none⟩) wd (C l)) ++ [.slice (some ⟨cg, 0, none⟩) wd wd, .slice (some ⟨lg, 0, none⟩) wd wd])) (hg : W.grownBy W2 rv.ownBlock) (ha : rv.ownBlock = some q ∨ q = W.heap.size) :
  Below w0.heap.size w0 (W2.setCell ⟨tb, 0, none⟩ (.slice (some ⟨q, 0, none⟩) (p.m + 2) cap)) ∧ ∃ bb sb pa pb pc pd, TSt w0.heap.size (W2.setCell ⟨tb, 0, none⟩ (.slice (some ⟨q, 0, none⟩) (p.m + 2) cap)) tb q cap bb sb p.m p.n wd pa pb pc pd (updN (updN G p.m cg) (p.m + 1) lg) (updN (updN C p.m wd) (p.m + 1) wd) (finM p) (fun l => ((p.n + p.m + l : Nat) : Int)) (fun l => sgR (p.Rt l)) 1 := by
 have oo : Only (fun c => rv.ownBlock = some c) W W2 := grown_only (Below.refl W.heap.size W) hg
 have ot := only_set W2 ⟨tb, 0, none⟩ (.slice (some ⟨q, 0, none⟩) (p.m + 2) cap)
 have nx := h.ap xb (.inl rfl)
 have nt := h.ap tb (.inr (.inl rfl))
 have nc := h.ap cg (.inr (.inr (.inl rfl)))
 have nl := h.ap lg (.inr (.inr (.inr rfl)))
 have far : ∀ c, c < W.heap.size → rv.ownBlock ≠ some c → q ≠ c := fun c hc hn e => by
  rcases ha with ha | ha
  ·exact hn (by rw [ha, e])
  ·omega
 have qt := far tb h.t.hb nt.1
 have qc := far cg h.c.hb nc.1
 have ql := far lg h.l.hb nl.1
 have dd := h.d
 have gf : ∀ l, l < p.m → q ≠ G l := fun l hl => far _ (h.r.row l hl).2.1 (h.r.row l hl).2.2
 obtain ⟨pa, pc, bb, hbv, hba, hbo⟩ := own_ownI h.o1
 obtain ⟨pb, pd, sb, hsv, hsa, hso⟩ := own_ownI h.o2
 have t2 := (h.t.only oo nt.1).set0 (.slice (some ⟨q, 0, none⟩) (p.m + 2) cap)
 rw [hbv, hsv] at t2
 have c2 := (h.c.only oo nc.1).only ot (fun e => dd.2.2.2.1 e.symm)
 have l2 := (h.l.only oo nl.1).only ot (fun e => dd.2.2.2.2.1 e.symm)
 have own : ∀ x, (Value.slice (some ⟨q, 0, none⟩) (p.m + 2) cap).ownBlock = some x → x = q := fun x hx => by simp [Value.ownBlock] at hx; exact hx.symm
 have ho2 := own_only ho ot (fun x hx e => qt (by rw [← own x hx]; exact e))
 have el : ((List.range p.m).map fun l => Value.slice (some ⟨G l, 0, none⟩) wd (C l)) ++ [Value.slice (some ⟨cg, 0, none⟩) wd wd, .slice (some ⟨lg, 0, none⟩) wd wd] = (List.range (p.m + 1 + 1)).map fun l => Value.slice (some ⟨updN (updN G p.m cg) (p.m + 1) lg l, 0, none⟩) wd (updN (updN C p.m wd) (p.m + 1) wd l) := by
  rw [row_list, row_list]; simp
 rw [el] at ho2
 have pick : ∀ i, i < p.m + 2 → (i < p.m ∧ updN (updN G p.m cg) (p.m + 1) lg i = G i ∧ updN (updN C p.m wd) (p.m + 1) wd i = C i) ∨ (i = p.m ∧ updN (updN G p.m cg) (p.m + 1) lg i = cg ∧ updN (updN C p.m wd) (p.m + 1) wd i = wd) ∨ (i = p.m + 1 ∧ updN (updN G p.m cg) (p.m + 1) lg i = lg ∧ updN (updN C p.m wd) (p.m + 1) wd i = wd) := fun i hi => by
  unfold updN
  by_cases e1 : i = p.m + 1
  ·exact .inr (.inr ⟨e1, if_pos e1, if_pos e1⟩)
  ·by_cases e2 : i = p.m
   ·exact .inr (.inl ⟨e2, by rw [if_neg e1, if_pos e2], by rw [if_neg e1, if_pos e2]⟩)
   ·exact .inl ⟨by omega, by rw [if_neg e1, if_neg e2], by rw [if_neg e1, if_neg e2]⟩
 have oc : ∀ l j, l < p.m → j < wd → (W2.setCell ⟨tb, 0, none⟩ (.slice (some ⟨q, 0, none⟩) (p.m + 2) cap)).cell? ⟨G l, j, none⟩ = some (.int .i64 (tabA p.n p.m p.Z p.Kd p.Rt l j)) ∧ (W2.setCell ⟨tb, 0, none⟩ (.slice (some ⟨q, 0, none⟩) (p.m + 2) cap)).frozen? ⟨G l, j, none⟩ = false := fun l j hl hj => by
  have hr := h.r.row l hl
  have n0 := nt.2.2.2 l hl
  refine ⟨?_, ?_⟩
  ·rw [ot.cell (p := ⟨G l, j, none⟩) (Nat.lt_of_lt_of_le hr.2.1 oo.size) n0, oo.cell (p := ⟨G l, j, none⟩) hr.2.1 hr.2.2]
   exact h.r.cell l j hl hj
  ·rw [ot.frozen (p := ⟨G l, j, none⟩) (Nat.lt_of_lt_of_le hr.2.1 oo.size) n0, oo.frozen (p := ⟨G l, j, none⟩) hr.2.1 hr.2.2]
   exact h.r.fz l j hl hj
 have RG : RGw w0.heap.size (W2.setCell ⟨tb, 0, none⟩ (.slice (some ⟨q, 0, none⟩) (p.m + 2) cap)) wd (p.m + 2) (updN (updN G p.m cg) (p.m + 1) lg) (updN (updN C p.m wd) (p.m + 1) wd) (finM p) (.slice (some ⟨q, 0, none⟩) (p.m + 2) cap) := by
  refine ⟨ho2, fun l hl => ?_, fun l hl => ?_, fun l k hl hk e => ?_, fun l j hl hj => ?_, fun l j hl hj => ?_⟩
  ·rcases pick l hl with ⟨h1, e1, _⟩ | ⟨h1, e1, _⟩ | ⟨h1, e1, _⟩
   ·rw [e1]; exact ⟨(h.r.row l h1).1, Nat.lt_of_lt_of_le (h.r.row l h1).2.1 (Nat.le_trans oo.size ot.size), fun e => gf l h1 (own _ e).symm⟩
   ·rw [e1]; exact ⟨c2.lo, c2.hb, fun e => qc (own _ e).symm⟩
   ·rw [e1]; exact ⟨l2.lo, l2.hb, fun e => ql (own _ e).symm⟩
  ·rcases pick l hl with ⟨h1, _, e1⟩ | ⟨h1, _, e1⟩ | ⟨h1, _, e1⟩
   ·rw [e1]; exact h.r.cap l h1
   ·rw [e1]; exact Nat.le_refl _
   ·rw [e1]; exact Nat.le_refl _
  ·rcases pick l hl with ⟨h1, e1, _⟩ | ⟨h1, e1, _⟩ | ⟨h1, e1, _⟩ <;> rcases pick k hk with ⟨k1, f1, _⟩ | ⟨k1, f1, _⟩ | ⟨k1, f1, _⟩ <;> rw [e1, f1] at e
   ·exact h.r.inj l k h1 k1 e
   ·exact absurd e (nc.2.2.2 l h1)
   ·exact absurd e (nl.2.2.2 l h1)
   ·exact absurd e.symm (nc.2.2.2 k k1)
   ·omega
   ·exact absurd e dd.2.2.2.2.2
   ·exact absurd e.symm (nl.2.2.2 k k1)
   ·exact absurd e.symm dd.2.2.2.2.2
   ·omega
  ·unfold finM
   rcases pick l hl with ⟨h1, e1, _⟩ | ⟨h1, e1, _⟩ | ⟨h1, e1, _⟩
   ·rw [e1, if_pos h1]; exact (oc l j h1 hj).1
   ·rw [e1, if_neg (by omega), if_pos h1]; exact c2.cell j hj
   ·rw [e1, if_neg (by omega), if_neg (by omega)]; exact l2.cell j hj
  ·rcases pick l hl with ⟨h1, e1, _⟩ | ⟨h1, e1, _⟩ | ⟨h1, e1, _⟩
   ·rw [e1]; exact (oc l j h1 hj).2
   ·rw [e1]; exact c2.fz j hj
   ·rw [e1]; exact l2.fz j hj
 obtain ⟨b, Cb, hv, hcb, hG⟩ := RG.grid (by omega)
 injection hv with hv1 _ hv3
 injection hv1 with hv1
 injection hv1 with hv1
 subst hv1
 subst hv3
 have bq : 0 < p.m → bb ≠ q := fun k e => by
  have hb := hbo k
  rcases ha with ha | ha
  ·exact (h.aq q ha).1 (by rw [hb, e])
  ·have := (h.o1.lt bb hb).2; omega
 have sq : 0 < p.m → sb ≠ q := fun k e => by
  have hb := hso k
  rcases ha with ha | ha
  ·exact (h.aq q ha).2 (by rw [hb, e])
  ·have := (h.o2.lt sb hb).2; omega
 have b3 := (hba.only oo (fun k e => (h.aq bb e).1 (hbo k))).only ot (fun k e => nt.2.1 (by rw [hbo k]; exact congrArg some e))
 have s3 := (hsa.only oo (fun k e => (h.aq sb e).2 (hso k))).only ot (fun k e => nt.2.2.1 (by rw [hso k]; exact congrArg some e))
 refine ⟨((h.b.trans (oo.below h.b.size (fun c hc => (h.r.own.lt c hc).1)))).setCell h.tl _, bb, sb, pa, pb, pc, pd, t2, hG, b3, s3, h.tl, qt.symm, fun i hi => ?_, fun k => ⟨fun e => nt.2.1 (by rw [hbo k, e]), bq k, fun e => (h.ar bb (hbo k)).1 (by rw [hso k, e]), fun i hi => ?_⟩, fun k => ⟨fun e => nt.2.2.1 (by rw [hso k, e]), sq k, fun i hi => ?_⟩, hcb⟩
 ·rcases pick i hi with ⟨h1, e1, _⟩ | ⟨h1, e1, _⟩ | ⟨h1, e1, _⟩
  ·rw [e1]; exact nt.2.2.2 i h1
  ·rw [e1]; exact fun e => dd.2.2.2.1 e.symm
  ·rw [e1]; exact fun e => dd.2.2.2.2.1 e.symm
 ·rcases pick i hi with ⟨h1, e1, _⟩ | ⟨h1, e1, _⟩ | ⟨h1, e1, _⟩
  ·rw [e1]; exact (h.ar bb (hbo k)).2 i h1
  ·rw [e1]; exact fun e => nc.2.1 (by rw [hbo k, e])
  ·rw [e1]; exact fun e => nl.2.1 (by rw [hbo k, e])
 ·rcases pick i hi with ⟨h1, e1, _⟩ | ⟨h1, e1, _⟩ | ⟨h1, e1, _⟩
  ·rw [e1]; exact h.ao sb (hso k) i h1
  ·rw [e1]; exact fun e => nc.2.2.1 (by rw [hso k, e])
  ·rw [e1]; exact fun e => nl.2.2.1 (by rw [hso k, e])
theorem fin_sim {p : PgD} {B0 : Nat} {W : World} {tb rb Cb bb sb : Nat} {pa pb : Option Addr} {pc pd : Nat} {G C : Nat → Nat} (hv : p.Ok) (h : TSt B0 W tb rb Cb bb sb p.m p.n (p.n + p.m + p.m + 1) pa pb pc pd G C (finM p) (fun l => ((p.n + p.m + l : Nat) : Int)) (fun l => sgR (p.Rt l)) 1) :
  SimSt B0 W tb rb Cb bb sb p.m p.n pa pb pc pd G C (tabA p.n p.m p.Z p.Kd p.Rt) (c0F p.n p.C) (c1F p.n p.m) (fun i => sgR (p.Rt i)) (b0P p.n p.m) := by
 unfold SimSt
 rw [b0_dd p.n p.m (lpA p.n p.m p.Z p.Kd p.Rt)]
 have h2 := h.congr (F := tabE p.m (tabA p.n p.m p.Z p.Kd p.Rt) (c0F p.n p.C) (c1F p.n p.m) (b0P p.n p.m)) (fun i j hi hj => by rw [tab_start p.n p.m p.Z p.Kd p.Rt p.C i j hi hj]; rfl)
 refine ⟨h2.t, h2.g, ⟨h2.ba.ad, h2.ba.lo, h2.ba.hb, fun i hi => ?_, h2.ba.fz⟩, h2.si, h2.le, h2.n1, h2.n2, h2.n3, h2.n4, h2.cb⟩
 rw [h2.ba.cell i hi]
 unfold b0P
 rw [if_pos hi]
set_option maxHeartbeats 1000000 in
theorem slackSign_any (k : Int) (w : World) : Calls Tryz.prog 84 #[.int .i64 k] w fun e w' => e = .returned (.int .i64 (slk k)) ∧ w = w' := by
 obtain ⟨s, hs⟩ : ∃ s, slk k = s := ⟨_, rfl⟩
 rw [hs]
 unfold slk at hs
 by_cases h1 : k = 1
 ·rw [if_pos h1] at hs
  subst hs
  go_enter Tryz.func84, Tryz.ntmps84
  go_wp2
  all_goals (go_ret; exact ⟨rfl, rfl⟩)
 ·rw [if_neg h1] at hs
  by_cases h2 : k = 2
  ·rw [if_pos h2] at hs
   subst hs
   go_enter Tryz.func84, Tryz.ntmps84
   go_wp2
   all_goals (go_ret; exact ⟨rfl, rfl⟩)
  ·rw [if_neg h2] at hs
   subst hs
   go_enter Tryz.func84, Tryz.ntmps84
   go_wp2
   all_goals (go_ret; exact ⟨rfl, rfl⟩)

/-- 'copy' of n integers into a row of zeros. -/
theorem wpList_copy_to {w : World} {ops : Array Oper} {rest : List Oper} {o : Oper} {a : Act} {Q : Exit → Act → World → Prop} (hgd : o.guard = none) (d s : Operand)
  (ho : o.op = .call { callee := .builtin .copy, args := #[d, s], argTypes := #[22, 22] }) (lo g wd dCap n sCap : Nat) (ad : Addr) (f : Nat → Int) (hd : a.eval d = .slice (some ⟨g, 0, none⟩) wd dCap) (hs : a.eval s = .slice (some ad) n sCap)
  (hz : ZRow lo w g wd) (hn : n ≤ wd) (hsrc : ∀ j u, ((List.range n).map fun j => Value.int .i64 (f j))[j]? = some u → w.cell? (ad.add j) = some u)
  (h : ∀ w', NRow lo wd w' g wd (fun j => if j < n then f j else 0) → Only (fun q => q = g) w w' → wpList Tryz.prog ops Q rest (a.put o.dst (goInt n)) w') : wpList Tryz.prog ops Q (o :: rest) a w := by
 refine wpList_copy_own hgd d s _ _ ho 3 Tryz.underlying22 (show (Tryz.prog.info? 3).map (·.size) = some 1 by kernel_rfl) g 0 wd dCap ad n sCap hd hs ((List.range wd).map fun _ => Value.int .i64 0).toArray 3 hz.2 ((List.range n).map fun j => Value.int .i64 (f j)) (by simp [Nat.min_def]; omega) hsrc (by simp; omega) (intsC_one n f) ?_
 have e := splice_row n wd f hn
 unfold splice at e
 have e2 : ((List.range n).map fun j => Value.int .i64 (f j)).length = n := by simp
 have earr : (((List.range wd).map fun _ => Value.int .i64 0).toArray.toList.take 0 ++ (((List.range n).map fun j => Value.int .i64 (f j)) ++ ((List.range wd).map fun _ => Value.int .i64 0).toArray.toList.drop (0 + ((List.range n).map fun j => Value.int .i64 (f j)).length))).toArray = ((List.range wd).map fun j => Value.int .i64 (if j < n then f j else 0)).toArray := by
  rw [show ((List.range wd).map fun _ => Value.int .i64 0).toArray.toList = (List.range wd).map fun _ => Value.int .i64 0 by simp]
  exact congrArg List.toArray e
 rw [earr, e2]
 exact h _ (row_heap hz.1 (setRow_heap w g _ _ _ _ hz.2)) (only_row w g _)

structure MkR (wd : Nat) (Wc : World) (L : Nat → Bool) (v : Nat → Value) (g : Nat → Nat) (W : World) : Prop where
 st : Below Wc.heap.size Wc W
 f0 : Had L 0 (v 29 = .int .i64 (wd : Nat))
 f1 : Had L 1 (v 30 = .slice (some ⟨g 1, 0, none⟩) wd wd)
 f2 : Had L 2 (v 31 = .int .i64 (wd : Nat))
 f3 : Had L 3 (v 32 = .slice (some ⟨g 3, 0, none⟩) wd wd)
 f4 : Had L 4 (v 7 = .slice (some ⟨g 1, 0, none⟩) wd wd)
 f5 : Had L 5 (v 8 = .slice (some ⟨g 3, 0, none⟩) wd wd)
 b1 : Had L 1 (ZRow Wc.heap.size W (g 1) wd)
 b3 : Had L 3 (ZRow Wc.heap.size W (g 3) wd)
 n13 : Had2 L 1 3 (g 1 ≠ g 3)
 w4 : Had L 4 (L 1 = true)
 w5 : Had L 5 (L 3 = true)

set_option maxRecDepth 100000 in
set_option maxHeartbeats 16000000 in
theorem newTable_any (p : PgD) (hv : p.Ok) (w : World) (hp : p.At w) :
  Calls Tryz.prog 47 #[p.val] w fun e w' => Below w.heap.size w w' ∧ ∃ tb rb Cb bb sb pa pb pc pd G C, e = .returned (.pointer (some ⟨tb, 0, none⟩)) ∧
   SimSt w.heap.size w' tb rb Cb bb sb p.m p.n pa pb pc pd G C (tabA p.n p.m p.Z p.Kd p.Rt) (c0F p.n p.C) (c1F p.n p.m) (fun i => sgR (p.Rt i)) (b0P p.n p.m) := by
 have HV := Lib.hid hv
 have HP := Lib.hid hp
 have hn1 := hv.n1
 have hn2 := hv.n2
 have hm2 := hv.m2
 clear hv hp
 unfold PgD.val
 obtain ⟨wd, hwd⟩ : ∃ wd, wd = p.n + p.m + p.m + 1 := ⟨_, rfl⟩
 have wk1 : IntKind.i64.wrap (2 * (p.m : Int)) = 2 * (p.m : Int) := IntWalk.i64_in _ (by omega)
 have wk2 : IntKind.i64.wrap ((p.n : Int) + 2 * (p.m : Int)) = (p.n : Int) + 2 * (p.m : Int) := IntWalk.i64_in _ (by omega)
 have wk3 : IntKind.i64.wrap ((p.n : Int) + 2 * (p.m : Int) + 1) = (wd : Int) := by rw [IntWalk.i64_in _ (by omega)]; omega
 obtain ⟨i0, hi0, hz0, hz1, hz2⟩ := info_parts (show (Tryz.prog.info? 3).map (fun i => (i.zero, i.size, i.bytes)) = some (some (Value.int IntKind.i64 0), 1, 8) by kernel_rfl)
 have HI := Lib.hid (And.intro hi0 (And.intro hz0 (And.intro hz1 hz2)))
 clear hi0 hz0 hz1 hz2
 go_enter Tryz.func47, Tryz.ntmps47
 have HWD := Lib.hid hwd
 clear hwd
 go_upto_region 1 with fail
 go_quiet (fail)
 go_upto_region 4 with fail
 obtain ⟨xb, hxb⟩ : ∃ x, x = w.heap.size := ⟨_, rfl⟩
 obtain ⟨tb, htb⟩ : ∃ x, x = w.heap.size + 1 := ⟨_, rfl⟩
 obtain ⟨W1, hW1⟩ : ∃ W, W = (((w.alloc (Obj.cells #[Value.slice p.ca p.n p.cc, Value.slice p.ra p.m p.rc] 25)).drewN nq).alloc (Obj.cells #[Value.slice none 0 0, Value.slice none 0 0, Value.slice none 0 0, Value.int IntKind.i64 1, Value.int IntKind.i64 p.n] 112)) := ⟨_, rfl⟩
 rw [← htb, ← hxb, ← hW1]
 have hb1 : Below w.heap.size w W1 := by
  rw [hW1]
  exact (below_drewN' ((Below.refl _ _).alloc (Nat.le_refl _) _) nq).alloc (by simp) _
 have hx1 : Blk W1 xb (.slice p.ca p.n p.cc) (.slice p.ra p.m p.rc) := by
  rw [hW1, hxb]
  exact ((Blk.new w _ _ _).on (below_drewN' (Below.refl _ _) nq)).alloc _
 have ht1 : TBlk W1 tb (.slice none 0 0) (.slice none 0 0) (.slice none 0 0) (.int .i64 1) (.int .i64 p.n) := by
  rw [hW1, htb]
  exact ⟨by simp, by simp [go_sem], by simp [go_sem], by simp [go_sem], by simp [go_sem], by simp [go_sem], fun o => by simp [go_sem]⟩
 have H1 := Lib.hid (And.intro hb1 (And.intro hx1 ht1))
 have HB := Lib.hid (And.intro hxb htb)
 clear hb1 hx1 ht1 hW1 hxb htb
 refine wp_region_each (fun L A W => ∃ (v : Nat → Value) (g : Nat → Nat), A = ⟨#[_, _, _, _, _, _, _, v 7, v 8, _, _, _, _, _, _, _, _, _, _, _, _, _, _, _, _, _, _, _, _, v 29, v 30, v 31, v 32, _, _, _, _, _, _, _, _, _, _, _, _, _, _, _, _, _, _, _, _, _, _, _, _, _, _, _, _, _, _, _, _, _, _, _, _, _, _, _, _, _, _, _, _, _, _, _, _, _, _, _, _, _, _, _, _, _, _, _, _, _, _, _, _, _, _, _, _, _, _, _, _, _, _, _, _, _, _, _, _, _, _, _, _, _, _, _, _, _, _, _, _, _, _, _, _, _, _, _, _, _, _, _, _, _, _], []⟩ ∧ MkR wd W1 L v g W) (by kernel_rfl) (by kernel_rfl) ⟨fun jz => undef, fun jz => 0, rfl, ⟨Below.drew (Below.refl _ _), Had.none, Had.none, Had.none, Had.none, Had.none, Had.none, Had.none, Had.none, (fun h => by cases h), Had.none, Had.none⟩⟩ (rs := [0, 1, 2, 3, 4, 5]) (by kernel_rfl) ?_ ?_
 ·refine EachOf.cons [] rfl (by kernel_rfl) ?_ ?_
  ·rintro L A W ⟨v, g, rfl, hR⟩ hi hw K hK
   go_simp
   refine hK.out _ _ ?_
   exact ⟨(fun jz => if jz = 29 then .int .i64 (wd : Nat) else v jz), g, rfl, ⟨hR.st, (fun _ => rfl), hR.f1.k, hR.f2.k, hR.f3.k, hR.f4.k, hR.f5.k, hR.b1.k, hR.b3.k, hR.n13.keep rfl rfl, hR.w4.keepM rfl (fun h => upd_on h), hR.w5.keepM rfl (fun h => upd_on h)⟩⟩
  refine EachOf.cons [0] rfl (by kernel_rfl) ?_ ?_
  ·rintro L A W ⟨v, g, rfl, hR⟩ hi hw K hK
   have e0 := hR.f0 (hw 0 (by simp))
   simp only [e0]
   clear e0
   simp only [List.getElem_toArray, List.getElem_cons_succ, List.getElem_cons_zero]
   rw [if_pos (show Region.wanted _ _ = true by rfl)]
   refine wp_make_own W _ _ 22 (by rfl) W.heap.size 3 i0 (.int .i64 0) 1 Tryz.underlying22 HI.out.1 HI.out.2.1 HI.out.2.2.1 _ _ _ _ wd (by rfl) (by rfl) rfl rfl (by rw [HI.out.2.2.2]; have := HWD.out; omega) (by have := HWD.out; unfold maxLen; omega) (Nat.le_refl _) ?_
   intro w1 ho hg
   have hb : Below W.heap.size W w1 := ⟨hg.os, hg.tape, hg.output, hg.size, fun k hk => hg.block k hk (by simp)⟩
   refine hK.out _ _ ?_
   exact ⟨(fun jz => if jz = 29 then .int .i64 (wd : Nat) else if jz = 30 then .slice (some ⟨W.heap.size, 0, none⟩) wd wd else v jz), (fun jz => if jz = 1 then W.heap.size else g jz), rfl, ⟨below_on hR.st hb, (fun _ => rfl), (fun _ => rfl), hR.f2.k, hR.f3.k, (fun h => absurd (hR.w4 (upd_back h rfl)) (by simp [hi])), hR.f5.k, (fun _ => ZRow.of ho hR.st.size), hR.b3.keepM rfl (fun h => h.on hb), (fun _ h => by have := (hR.b3 (upd_back h rfl)).lt; exact Nat.ne_of_gt this), hR.w4.keepM rfl (fun h => upd_on h), hR.w5.keepM rfl (fun h => upd_on h)⟩⟩
  refine EachOf.cons [] rfl (by kernel_rfl) ?_ ?_
  ·rintro L A W ⟨v, g, rfl, hR⟩ hi hw K hK
   go_simp
   refine hK.out _ _ ?_
   exact ⟨(fun jz => if jz = 31 then .int .i64 (wd : Nat) else v jz), g, rfl, ⟨hR.st, hR.f0.k, hR.f1.k, (fun _ => rfl), hR.f3.k, hR.f4.k, hR.f5.k, hR.b1.k, hR.b3.k, hR.n13.keep rfl rfl, hR.w4.keepM rfl (fun h => upd_on h), hR.w5.keepM rfl (fun h => upd_on h)⟩⟩
  refine EachOf.cons [2] rfl (by kernel_rfl) ?_ ?_
  ·rintro L A W ⟨v, g, rfl, hR⟩ hi hw K hK
   have e2 := hR.f2 (hw 2 (by simp))
   simp only [e2]
   clear e2
   simp only [List.getElem_toArray, List.getElem_cons_succ, List.getElem_cons_zero]
   rw [if_pos (show Region.wanted _ _ = true by rfl)]
   refine wp_make_own W _ _ 22 (by rfl) W.heap.size 3 i0 (.int .i64 0) 1 Tryz.underlying22 HI.out.1 HI.out.2.1 HI.out.2.2.1 _ _ _ _ wd (by rfl) (by rfl) rfl rfl (by rw [HI.out.2.2.2]; have := HWD.out; omega) (by have := HWD.out; unfold maxLen; omega) (Nat.le_refl _) ?_
   intro w1 ho hg
   have hb : Below W.heap.size W w1 := ⟨hg.os, hg.tape, hg.output, hg.size, fun k hk => hg.block k hk (by simp)⟩
   refine hK.out _ _ ?_
   exact ⟨(fun jz => if jz = 31 then .int .i64 (wd : Nat) else if jz = 32 then .slice (some ⟨W.heap.size, 0, none⟩) wd wd else v jz), (fun jz => if jz = 3 then W.heap.size else g jz), rfl, ⟨below_on hR.st hb, hR.f0.k, hR.f1.k, (fun _ => rfl), (fun _ => rfl), hR.f4.k, (fun h => absurd (hR.w5 (upd_back h rfl)) (by simp [hi])), hR.b1.keepM rfl (fun h => h.on hb), (fun _ => ZRow.of ho hR.st.size), (fun h _ => by have := (hR.b1 (upd_back h rfl)).lt; exact Nat.ne_of_lt this), hR.w4.keepM rfl (fun h => upd_on h), hR.w5.keepM rfl (fun h => upd_on h)⟩⟩
  refine EachOf.cons [1] rfl (by kernel_rfl) ?_ ?_
  ·rintro L A W ⟨v, g, rfl, hR⟩ hi hw K hK
   have e1 := hR.f1 (hw 1 (by simp))
   simp only [e1]
   clear e1
   go_simp
   refine hK.out _ _ ?_
   exact ⟨(fun jz => if jz = 30 then .slice (some ⟨g 1, 0, none⟩) wd wd else if jz = 7 then .slice (some ⟨g 1, 0, none⟩) wd wd else v jz), g, rfl, ⟨hR.st, hR.f0.k, (fun _ => rfl), hR.f2.k, hR.f3.k, (fun _ => rfl), hR.f5.k, hR.b1.k, hR.b3.k, hR.n13.keep rfl rfl, (fun _ => upd_on (hw 1 (by simp))), hR.w5.keepM rfl (fun h => upd_on h)⟩⟩
  refine EachOf.cons [3] rfl (by kernel_rfl) ?_ ?_
  ·rintro L A W ⟨v, g, rfl, hR⟩ hi hw K hK
   have e3 := hR.f3 (hw 3 (by simp))
   simp only [e3]
   clear e3
   go_simp
   refine hK.out _ _ ?_
   exact ⟨(fun jz => if jz = 32 then .slice (some ⟨g 3, 0, none⟩) wd wd else if jz = 8 then .slice (some ⟨g 3, 0, none⟩) wd wd else v jz), g, rfl, ⟨hR.st, hR.f0.k, hR.f1.k, hR.f2.k, (fun _ => rfl), hR.f4.k, (fun _ => rfl), hR.b1.k, hR.b3.k, hR.n13.keep rfl rfl, hR.w4.keepM rfl (fun h => upd_on h), (fun _ => upd_on (hw 3 (by simp)))⟩⟩
  exact EachOf.nil
 rintro L A W ⟨v, g, rfl, hR⟩ hL
 have e7 := hR.f4 (hL 4 (by simp))
 have e8 := hR.f5 (hL 5 (by simp))
 have e30 := hR.f1 (hL 1 (by simp))
 have e32 := hR.f3 (hL 3 (by simp))
 have e29 := hR.f0 (hL 0 (by simp))
 have e31 := hR.f2 (hL 2 (by simp))
 simp only [e7, e8, e30, e32, e29, e31]
 obtain ⟨cg, hcg⟩ : ∃ x, g 1 = x := ⟨_, rfl⟩
 obtain ⟨lg, hlg⟩ : ∃ x, g 3 = x := ⟨_, rfl⟩
 have hz1 := hR.b1 (hL 1 (by simp))
 have hz3 := hR.b3 (hL 3 (by simp))
 have hne := hR.n13 (hL 1 (by simp)) (hL 3 (by simp))
 have hst := hR.st
 simp only [hcg, hlg] at hz1 hz3 hne ⊢
 have H2 := Lib.hid (And.intro hst (And.intro hz1 (And.intro hz3 hne)))
 clear e7 e8 e30 e32 e29 e31 hcg hlg hz1 hz3 hne hst hR hL
 go_upto_region 5 with fail
 have q0 := (H1.out.2.1.on H2.out.1).2.1
 obtain ⟨ga, oa, e1, e2, e3⟩ := (HP.out.cost.on (below_on H1.out.1 H2.out.1)) (by omega)
 rw [e1] at q0
 have HC := Lib.hid (And.intro e1 e3)
 clear e1 e2 e3
 go_upto_region 6 with (refine wpList_copy_to rfl _ _ rfl W1.heap.size cg wd _ p.n _ ⟨ga, oa, none⟩ p.C rfl rfl H2.out.2.1 (by have := HWD.out; omega) (intsC_cells HC.out.2) ?_; intro W6 hN6 hO6)
 have hz3 := H2.out.2.2.1
 have hl6 : NRow w.heap.size wd W6 lg wd (lckL p.n p.m p.Z p.Kd p.Rt 0) := row_heap (Nat.le_trans H1.out.1.size hz3.1) (by rw [hO6.block lg hz3.lt (fun e => H2.out.2.2.2 e.symm)]; exact hz3.2)
 have hi6 : NewI p w W6 xb tb cg lg wd 0 0 0 (fun _ => 0) (fun _ => 0) (lckL p.n p.m p.Z p.Kd p.Rt 0) (.slice none 0 0) (.slice none 0 0) (.slice none 0 0) := by
  have lc := Nat.le_trans H1.out.1.size H2.out.2.1.1
  have x6 := (H1.out.2.1.on H2.out.1)
  have t6 := (H1.out.2.2.on H2.out.1)
  have xl := H1.out.2.1.1
  have tl := H1.out.2.2.hb
  have c1 := H2.out.2.1.1
  have c3 := hz3.1
  refine ⟨(below_on H1.out.1 H2.out.1).trans (hO6.below (Nat.le_trans H1.out.1.size H2.out.1.size) (fun q hq => by rw [hq]; exact lc)), x6.only hO6 (fun e => by have e2 : xb = cg := e; omega), t6.only hO6 (fun e => by have e2 : tb = cg := e; omega), by rw [HB.out.2]; omega, hN6.mono H1.out.1.size, hl6, RGw.nil _ _ _ _, World.ownsRow_nil _ _ _ _, World.ownsRow_nil _ _ _ _,
   ⟨by rw [HB.out.1, HB.out.2]; omega, by omega, by omega, by omega, by omega, H2.out.2.2.2⟩, fun q _ => ⟨(by simp [Value.ownBlock]), (by simp [Value.ownBlock]), (by simp [Value.ownBlock]), fun l h => by omega⟩, (fun q h => by cases h), (fun q h => by cases h), (fun q h => by cases h)⟩
 have S0 := Lib.hid hi6
 have q1 := hi6.x.2.2
 clear hz3 hl6 hi6 hN6 hO6 q0 HC
 go_wp2_with fail
 clear q1
 clear H1 H2
 go_loopg [40] p.m (fun g s40 wx => ∃ i : Nat, s40 = .int .i64 i ∧ g = p.m - i ∧ i ≤ p.m ∧ ∃ G C rv bv sv, Hid (NewI p w wx xb tb cg lg wd i i i G C (lckL p.n p.m p.Z p.Kd p.Rt i) rv bv sv))
 case atStart => exact ⟨0, rfl, rfl, Nat.zero_le _, _, _, _, _, _, S0⟩
 case round =>
  clear S0
  obtain ⟨i, rfl, rfl, hi, G, C, rv, bv, sv, S⟩ := hrel
  rename World => W1
  by_cases hlt : i < p.m
  ·have wk : IntKind.i64.wrap ((i : Int) + 1) = ((i + 1 : Nat) : Int) := by rw [IntWalk.i64_in _ (by omega)]; omega
   obtain ⟨gr, gro, er, hgr, hrow⟩ := (HP.out.on S.out.b).rows (by omega)
   have hri := hrow i hlt
   rw [er]
   have q1 := hri.1
   have q2 := hri.2.1
   have q3 := hri.2.2
   rw [HV.out.l i hlt] at q1
   obtain ⟨gc, oc, ec, hgc, hcc⟩ := ((HP.out.on S.out.b).coef i hlt) (by rw [HV.out.l i hlt]; omega)
   rw [HV.out.l i hlt] at hcc
   rw [ec] at q1
   have HCF := Lib.hid (And.intro hgc hcc)
   have hzr := HV.out.r i hlt
   have hzk := HV.out.k i hlt
   clear hrow hri hgc hcc
   obtain ⟨rt, hrt⟩ : ∃ x, p.Rt i = x := ⟨_, rfl⟩
   obtain ⟨kd, hkd⟩ : ∃ x, p.Kd i = x := ⟨_, rfl⟩
   rw [hrt] at q3 hzr
   rw [hkd] at q2
   have HRT := Lib.hid (And.intro hrt hkd)
   clear hrt hkd hzk
   have wkn : IntKind.i64.wrap ((p.n : Int) + (i : Int)) = ((p.n + i : Nat) : Int) := by rw [IntWalk.i64_in _ (by omega)]; omega
   have wkd : IntKind.i64.wrap ((wd : Int) - 1) = ((p.n + p.m + p.m : Nat) : Int) := by have := HWD.out; rw [IntWalk.i64_in _ (by omega)]; omega
   go_upto_region 9 with fail
   obtain ⟨rb, hrb⟩ : ∃ x, x = W1.heap.size := ⟨_, rfl⟩
   obtain ⟨W2, hW2⟩ : ∃ V, V = W1.alloc (Obj.cells #[Value.slice (some ⟨gc, oc, none⟩) p.n (p.Kc i), Value.int IntKind.i64 kd, Value.int IntKind.i64 rt] 53) := ⟨_, rfl⟩
   rw [← hrb, ← hW2]
   have hb2 : Below W1.heap.size W1 W2 := by rw [hW2]; exact (Below.refl _ _).alloc (Nat.le_refl _) _
   have hr2 : EBlk W2 rb (.slice (some ⟨gc, oc, none⟩) p.n (p.Kc i)) (.int .i64 kd) (.int .i64 rt) := by
    rw [hW2, hrb]
    exact ⟨by simp, by simp [go_sem], by simp [go_sem], by simp [go_sem], by simp [go_sem], by simp [go_sem], by simp [go_sem]⟩
   have H2 := Lib.hid (And.intro hb2 hr2)
   have HRB := Lib.hid hrb
   clear hb2 hr2 hW2 hrb q1 q2 q3
   go_upto_region 10 with (refine wpList_make_full _ rfl _ _ 22 rfl W2.heap.size 3 i0 (.int .i64 0) 1 Tryz.underlying22 HI.out.1 HI.out.2.1 HI.out.2.2.1 _ _ _ _ wd rfl rfl rfl rfl (by rw [HI.out.2.2.2]; have := HWD.out; omega) (by have := HWD.out; unfold maxLen; omega) (Nat.le_refl _) ?_; intro W3 ho hg)
   have hb3 : Below W2.heap.size W2 W3 := ⟨hg.os, hg.tape, hg.output, hg.size, fun k hk => hg.block k hk (by simp)⟩
   obtain ⟨g, hgg⟩ : ∃ x, x = W2.heap.size := ⟨_, rfl⟩
   rw [← hgg] at ho
   rw [← hgg]
   have hz3 := ZRow.of ho (Nat.le_trans H2.out.1.size (Nat.le_of_eq hgg.symm))
   have H3 := Lib.hid (And.intro (below_on H2.out.1 hb3) (And.intro (H2.out.2.on hb3) hz3))
   have hgr : rb < g := by rw [hgg]; exact H2.out.2.hb
   have hg1 : W1.heap.size ≤ g := hz3.1
   clear ho hg hb3 hgg hz3
   have q1 := H3.out.2.1.c0
   go_upto_region 11 with (refine wpList_copy_to rfl _ _ rfl W1.heap.size g wd _ p.n _ ⟨gc, oc, none⟩ (p.Z i) rfl rfl H3.out.2.2 (by have := HWD.out; omega) (intsC_cells fun j hj => (H3.out.1.cell (p := ⟨gc, oc + j, none⟩) HCF.out.1).trans (HCF.out.2 j hj)) ?_; intro W4 hN4 hO4)
   have hr4 := H3.out.2.1.only hO4 (fun e => by have e2 : rb = g := e; omega)
   have hb4 : Below W1.heap.size W1 W4 := H3.out.1.trans (hO4.below H3.out.1.size (fun q hq => by rw [hq]; exact hg1))
   have H4 := Lib.hid (And.intro hb4 (And.intro hr4 hN4))
   clear hr4 hb4 hN4 hO4 q1
   have q2 := H4.out.2.1.c1
   have q3 := H4.out.2.1.c2
   have c1 := H4.out.2.2.cell (p.n + i) (by have := HWD.out; omega)
   have c2 := H4.out.2.2.fz (p.n + i) (by have := HWD.out; omega)
   have c3 := H4.out.2.2.cell (p.n + p.m + p.m) (by have := HWD.out; omega)
   have c4 := H4.out.2.2.fz (p.n + p.m + p.m) (by have := HWD.out; omega)
   have l1 : ((p.n + i : Nat) : Int) < (wd : Int) := by have := HWD.out; omega
   have l2 : ((p.n + p.m + p.m : Nat) : Int) < (wd : Int) := by have := HWD.out; omega
   have l3 : (p.n : Int) + (i : Int) < (wd : Int) := by omega
   have l4 : (p.n : Int) + (p.m : Int) + (p.m : Int) < (wd : Int) := by omega
   have ngr : g ≠ rb := by omega
   have CS := fun w => Lib.hid (slackSign_any kd w)
   obtain ⟨sk, hsk⟩ : ∃ x, slk kd = x := ⟨_, rfl⟩
   simp only [hsk] at CS
   have HSK := Lib.hid hsk
   clear hsk
   go_upto_region 14 with (first | (go_at_call 84; (with_reducible refine (((CS _).out).mono ?_)); rintro e w' ⟨rfl, rfl⟩))
   have hN5 := ((H4.out.2.2.set (p.n + i) (by have := HWD.out; omega) sk).set (p.n + p.m + p.m) (by have := HWD.out; omega) rt).congr (f2 := rawA p.n p.m p.Z p.Kd p.Rt i) (fun j hj => by
    unfold setF rawA
    rw [HRT.out.1, HRT.out.2, HSK.out]
    by_cases e1 : j = p.n + p.m + p.m
    ·have a1 : ¬ j < p.n := by omega
     have a2 : ¬ j = p.n + i := by omega
     simp only [if_pos e1, if_neg a1, if_neg a2]
    ·by_cases e2 : j = p.n + i
     ·have a1 : ¬ j < p.n := by omega
      simp only [if_neg e1, if_pos e2, if_neg a1]
     ·simp only [if_neg e1, if_neg e2])
   have hO5 : Only (fun q => q = g) W4 ((W4.setCell ⟨g, p.n + i, none⟩ (.int .i64 sk)).setCell ⟨g, p.n + p.m + p.m, none⟩ (.int .i64 rt)) := (only_set W4 ⟨g, p.n + i, none⟩ (.int .i64 sk)).setCell ⟨g, p.n + p.m + p.m, none⟩ rfl _
   obtain ⟨W5, hW5⟩ : ∃ V, V = ((W4.setCell ⟨g, p.n + i, none⟩ (.int .i64 sk)).setCell ⟨g, p.n + p.m + p.m, none⟩ (.int .i64 rt)) := ⟨_, rfl⟩
   rw [← hW5] at hN5 hO5
   rw [← hW5]
   have H5 := Lib.hid (And.intro (H4.out.1.trans (hO5.below H4.out.1.size (fun q hq => by rw [hq]; exact hg1))) (And.intro (H4.out.2.1.only hO5 (fun e => by have e2 : rb = g := e; omega)) hN5))
   have q4 := H5.out.2.1.c2
   clear hN5 hO5 hW5 q2 q3 c1 c2 c3 c4 CS H4 H3 H2 l3 l4
   go_upto_if 67 with fail
   go_cut [12] (fun s12 wx => s12 = .int .i64 (sgR rt) ∧ Hid (Below W1.heap.size W1 wx ∧ NRow W1.heap.size wd wx g wd (fun j => sgR rt * rawA p.n p.m p.Z p.Kd p.Rt i j)))
   case first =>
    by_cases hneg : rt < 0
    ·have d1 : decide (rt < 0) = true := decide_eq_true hneg
     have es : sgR rt = -1 := if_pos hneg
     have bd := fun j => raw_bd HV.out i hlt j
     rw [HRT.out.1, es] at bd
     have CT := Lib.hid (turn_any W1.heap.size wd g wd (rawA p.n p.m p.Z p.Kd p.Rt i) W5 H5.out.2.2 (by have := HWD.out; omega) (fun j hj => by have := bd j; omega))
     have HES := Lib.hid es
     clear es bd
     go_wp2_with (first | (go_at_call 85; (with_reducible refine ((CT.out).mono ?_)); rintro e w6 ⟨rfl, hN6, hO6⟩))
     have T : Hid (Below W1.heap.size W1 w6 ∧ NRow W1.heap.size wd w6 g wd (fun j => sgR rt * rawA p.n p.m p.Z p.Kd p.Rt i j)) := ⟨H5.out.1.trans (hO6.below H5.out.1.size (fun q hq => by rw [hq]; exact hg1)), hN6.congr fun j hj => by rw [HES.out]; omega⟩
     clear hN6 hO6 CT H5
     go_wp2_with fail
     go_meet
     exact ⟨by rw [HES.out], T⟩
    ·have d1 : decide (rt < 0) = false := decide_eq_false hneg
     have es : sgR rt = 1 := if_neg hneg
     have HES := Lib.hid es
     clear es
     have T : Hid (Below W1.heap.size W1 W5 ∧ NRow W1.heap.size wd W5 g wd (fun j => sgR rt * rawA p.n p.m p.Z p.Kd p.Rt i j)) := ⟨H5.out.1, H5.out.2.2.congr fun j hj => by rw [HES.out]; omega⟩
     go_wp2_with fail
     go_meet
     exact ⟨by rw [HES.out], T⟩
   case rest =>
    clear H5 q4
    obtain ⟨rfl, H6⟩ := hcut
    rename World => W6
    go_wp2_with fail
    have hfr := S.out.fresh hg1
    have HFR := Lib.hid hfr
    have S7 : Hid (NewI p w W6 xb tb cg lg wd i i i G C (fun k => if k < 0 then lckL p.n p.m p.Z p.Kd p.Rt (i + 1) k else lckL p.n p.m p.Z p.Kd p.Rt i k) rv bv sv ∧ NRow w.heap.size wd W6 g wd (fun j => sgR rt * rawA p.n p.m p.Z p.Kd p.Rt i j)) :=
     ⟨(S.out.on H6.out.1).lack (Only.refl _ _) ((S.out.on H6.out.1).l.congr fun j hj => if_neg (by omega)), H6.out.2.mono S.out.b.size⟩
    have hgw : w.heap.size ≤ g := Nat.le_trans S.out.b.size hg1
    clear hfr S H6
    go_loopg [72] wd (fun q s72 wx => ∃ j : Nat, s72 = .int .i64 j ∧ q = wd - j ∧ j ≤ wd ∧ Hid (NewI p w wx xb tb cg lg wd i i i G C (fun k => if k < j then lckL p.n p.m p.Z p.Kd p.Rt (i + 1) k else lckL p.n p.m p.Z p.Kd p.Rt i k) rv bv sv ∧ NRow w.heap.size wd wx g wd (fun j => sgR rt * rawA p.n p.m p.Z p.Kd p.Rt i j)))
    case atStart => exact ⟨0, rfl, rfl, Nat.zero_le _, S7⟩
    case round =>
     clear S7
     obtain ⟨j, rfl, rfl, hj, T⟩ := hrel
     rename World => W7
     by_cases hltj : j < wd
     ·have wkj : IntKind.i64.wrap ((j : Int) + 1) = ((j + 1 : Nat) : Int) := by have := HWD.out; rw [IntWalk.i64_in _ (by omega)]; omega
      have p1 := T.out.2.cell j hltj
      have p2 := T.out.1.l.cell j hltj
      have p3 := T.out.1.l.fz j hltj
      rw [if_neg (by omega)] at p2
      have b1 := raw_bd HV.out i hlt j
      have b2 := lck_bd HV.out i hi j
      have es := lck_succ p.n p.m p.Z p.Kd p.Rt i j
      rw [HRT.out.1] at b1 es
      have T2 := Lib.hid (And.intro (T.out.1.lack (only_set W7 ⟨lg, j, none⟩ (.int .i64 (lckL p.n p.m p.Z p.Kd p.Rt (i + 1) j))) ((T.out.1.l.set j hltj (lckL p.n p.m p.Z p.Kd p.Rt (i + 1) j)).congr (f2 := fun k => if k < j + 1 then lckL p.n p.m p.Z p.Kd p.Rt (i + 1) k else lckL p.n p.m p.Z p.Kd p.Rt i k) (fun k hk => by
       unfold setF
       by_cases e : k = j
       ·rw [if_pos e, if_pos (by omega), e]
       ·rw [if_neg e]
        by_cases e2 : k < j
        ·have e3 : k < j + 1 := by omega
         simp only [if_pos e2, if_pos e3]
        ·have e3 : ¬ k < j + 1 := by omega
         simp only [if_neg e2, if_neg e3]))) (T.out.2.only (only_set W7 ⟨lg, j, none⟩ (.int .i64 (lckL p.n p.m p.Z p.Kd p.Rt (i + 1) j))) (fun e => HFR.out.2.2.2.2.2.2.2 e.symm)))
      rw [es] at T2
      generalize sgR rt * rawA p.n p.m p.Z p.Kd p.Rt i j = x at *
      generalize lckL p.n p.m p.Z p.Kd p.Rt i j = y at *
      have wx : IntKind.i64.wrap (y - x) = y - x := IntWalk.i64_in _ (by omega)
      clear T es b1 b2
      go_wp2_with fail
      go_roundg (wd - (j + 1))
      case measure => omega
      case rel => exact ⟨j + 1, rfl, rfl, by omega, T2⟩
     ·have e : wd = j := by omega
      subst e
      have T1 := Lib.hid (And.intro (T.out.1.lack (Only.refl _ _) (T.out.1.l.congr (f2 := lckL p.n p.m p.Z p.Kd p.Rt (i + 1)) (fun k hk => (if_pos hk).symm))) T.out.2)
      clear T
      have wkm : IntKind.i64.wrap ((p.n : Int) + (p.m : Int)) = (p.n : Int) + (p.m : Int) := IntWalk.i64_in _ (by omega)
      have wkm2 : IntKind.i64.wrap ((p.n : Int) + (p.m : Int) + (i : Int)) = ((p.n + p.m + i : Nat) : Int) := by rw [IntWalk.i64_in _ (by omega)]; omega
      have c1 := T1.out.2.cell (p.n + p.m + i) (by have := HWD.out; omega)
      have c2 := T1.out.2.fz (p.n + p.m + i) (by have := HWD.out; omega)
      have l5 : ((p.n + p.m + i : Nat) : Int) < (wd : Int) := by have := HWD.out; omega
      go_upto_region 23 with fail
      have h8 := only_set W7 ⟨g, p.n + p.m + i, none⟩ (.int .i64 1)
      have n8 := (T1.out.2.set (p.n + p.m + i) (by have := HWD.out; omega) 1).congr (f2 := tabA p.n p.m p.Z p.Kd p.Rt i) (fun j hj => by
       unfold setF tabA
       by_cases e : j = p.n + p.m + i
       ·simp only [if_pos e]
       ·simp only [if_neg e, HRT.out.1])
      obtain ⟨W8, hW8⟩ : ∃ V, V = W7.setCell ⟨g, p.n + p.m + i, none⟩ (.int .i64 1) := ⟨_, rfl⟩
      rw [← hW8] at h8 n8
      rw [← hW8]
      obtain ⟨f1, f2, f3, f4, f5⟩ := HFR.out
      have S8 := Lib.hid (T1.out.1.far h8 hgw f1 f2 f3 f4 f5)
      have N8 := Lib.hid n8
      have HF := Lib.hid (And.intro f1 (And.intro f2 (And.intro f3 (And.intro f4 f5))))
      clear h8 n8 hW8 f1 f2 f3 f4 f5 HFR T1 c1 c2
      obtain ⟨pa, pc, hpv⟩ := own_form S8.out.r.own
      subst hpv
      obtain ⟨i1, hi1, hy0, hy1, hy2⟩ := info_parts (show (Tryz.prog.info? 22).map (fun i => (i.zero, i.size, i.bytes)) = some (some (Value.slice none 0 0), 1, 24) by kernel_rfl)
      have B1 : Hid (Below W8.heap.size W8 (W8.alloc (Obj.cells #[.slice (some ⟨g, 0, none⟩) wd wd] 22))) := (Below.refl _ _).alloc (Nat.le_refl _) _
      have O1 := Lib.hid (S8.out.on B1.out)
      have A1 : Hid (∀ j u, [.slice (some ⟨g, 0, none⟩) wd wd][j]? = some u → (W8.alloc (Obj.cells #[.slice (some ⟨g, 0, none⟩) wd wd] 22)).cell? ((⟨W8.heap.size, 0, none⟩ : Addr).add j) = some u) := one_news (by simp [go_sem])
      have n1 := O1.out.ap tb (.inr (.inl rfl))
      have hle1 : w.heap.size ≤ (W8.alloc (Obj.cells #[.slice (some ⟨g, 0, none⟩) wd wd] 22)).heap.size := O1.out.b.size
      have k1 := S8.out.t.c0
      go_upto_region 24 with (at_builtin; refine wpList_append_lies _ rfl _ _ 85 rfl w.heap.size 22 i1 (.slice none 0 0) 1 24 Tryz.underlying85 hi1 hy0 hy1 hy2 rfl (by decide) _ _ _ rfl O1.out.r.own ⟨W8.heap.size, 0, none⟩ 1 1 [.slice (some ⟨g, 0, none⟩) wd wd] rfl rfl A1.out (by intro u hu; simp at hu; subst hu; rfl) (by omega) (by unfold maxLen; omega) (by omega) hle1 _ rfl ?_; intro q cap W9 hown hgrow hat _; have kk1 := ((grown_only (Below.refl _ _) hgrow).cell (p := ⟨tb, 0, none⟩) O1.out.t.hb n1.1).trans O1.out.t.c0; have kk2 := ((grown_only (Below.refl _ _) hgrow).frozen (p := ⟨tb, 0, none⟩) O1.out.t.hb n1.1).trans (O1.out.t.fz 0))
      have S9 := Lib.hid (O1.out.pushR (N8.out.on B1.out) HF.out.1 HF.out.2.1 HF.out.2.2.1 HF.out.2.2.2.1 HF.out.2.2.2.2 hown hgrow hat)
      clear hown hgrow hat kk1 kk2 B1 O1 A1 n1 hle1 k1 S8 N8 HF i1 hi1 hy0 hy1 hy2
      obtain ⟨W10, hW10⟩ : ∃ V, V = W9.setCell ⟨tb, 0, none⟩ (.slice (some ⟨q, 0, none⟩) (i + 1) cap) := ⟨_, rfl⟩
      rw [← hW10] at S9
      rw [← hW10]
      clear hW10
      obtain ⟨pb, pd, hpv⟩ := own_form S9.out.o1
      subst hpv
      have B2 : Hid (Below W10.heap.size W10 (W10.alloc (Obj.cells #[.int .i64 ((p.n + p.m + i : Nat) : Int)] 3))) := (Below.refl _ _).alloc (Nat.le_refl _) _
      have O2 := Lib.hid (S9.out.on B2.out)
      have A2 : Hid (∀ j u, [.int .i64 ((p.n + p.m + i : Nat) : Int)][j]? = some u → (W10.alloc (Obj.cells #[.int .i64 ((p.n + p.m + i : Nat) : Int)] 3)).cell? ((⟨W10.heap.size, 0, none⟩ : Addr).add j) = some u) := one_news (by simp [go_sem])
      have n2 := O2.out.ap tb (.inr (.inl rfl))
      have hle2 : w.heap.size ≤ (W10.alloc (Obj.cells #[.int .i64 ((p.n + p.m + i : Nat) : Int)] 3)).heap.size := O2.out.b.size
      have k2 := S9.out.t.c1
      rw [← Int.natCast_add, ← Int.natCast_add] at *
      go_upto_region 25 with (at_builtin; refine wpList_append_lies _ rfl _ _ 22 rfl w.heap.size 3 i0 (.int .i64 0) 1 8 Tryz.underlying22 HI.out.1 HI.out.2.1 HI.out.2.2.1 HI.out.2.2.2 rfl (by decide) _ _ _ rfl O2.out.o1 ⟨W10.heap.size, 0, none⟩ 1 1 [.int .i64 ((p.n + p.m + i : Nat) : Int)] rfl rfl A2.out (by intro u hu; simp at hu; subst hu; rfl) (by omega) (by unfold maxLen; omega) (by omega) hle2 _ rfl ?_; intro q2 cap2 W11 hown hgrow hat _; have kk1 := ((grown_only (Below.refl _ _) hgrow).cell (p := ⟨tb, 1, none⟩) O2.out.t.hb n2.2.1).trans O2.out.t.c1; have kk2 := ((grown_only (Below.refl _ _) hgrow).frozen (p := ⟨tb, 1, none⟩) O2.out.t.hb n2.2.1).trans (O2.out.t.fz 1))
      have S11 := Lib.hid (O2.out.pushB hown hgrow hat)
      clear hown hgrow hat kk1 kk2 B2 O2 A2 n2 hle2 k2 S9
      obtain ⟨W12, hW12⟩ : ∃ V, V = W11.setCell ⟨tb, 1, none⟩ (.slice (some ⟨q2, 0, none⟩) (i + 1) cap2) := ⟨_, rfl⟩
      rw [← hW12] at S11
      rw [← hW12]
      clear hW12
      obtain ⟨pe, pf, hpv⟩ := own_form S11.out.o2
      subst hpv
      have B3 : Hid (Below W12.heap.size W12 (W12.alloc (Obj.cells #[.int .i64 (sgR rt)] 3))) := (Below.refl _ _).alloc (Nat.le_refl _) _
      have O3 := Lib.hid (S11.out.on B3.out)
      have A3 : Hid (∀ j u, [Value.int .i64 (sgR rt)][j]? = some u → (W12.alloc (Obj.cells #[.int .i64 (sgR rt)] 3)).cell? ((⟨W12.heap.size, 0, none⟩ : Addr).add j) = some u) := one_news (by simp [go_sem])
      have n3 := O3.out.ap tb (.inr (.inl rfl))
      have hle3 : w.heap.size ≤ (W12.alloc (Obj.cells #[.int .i64 (sgR rt)] 3)).heap.size := O3.out.b.size
      have k3 := S11.out.t.c2
      go_wp2_with (at_builtin; refine wpList_append_lies _ rfl _ _ 22 rfl w.heap.size 3 i0 (.int .i64 0) 1 8 Tryz.underlying22 HI.out.1 HI.out.2.1 HI.out.2.2.1 HI.out.2.2.2 rfl (by decide) _ _ _ rfl O3.out.o2 ⟨W12.heap.size, 0, none⟩ 1 1 [.int .i64 (sgR rt)] rfl rfl A3.out (by intro u hu; simp at hu; subst hu; rfl) (by omega) (by unfold maxLen; omega) (by omega) hle3 _ rfl ?_; intro q3 cap3 W13 hown hgrow hat _; have kk1 := ((grown_only (Below.refl _ _) hgrow).cell (p := ⟨tb, 2, none⟩) O3.out.t.hb n3.2.2.1).trans O3.out.t.c2; have kk2 := ((grown_only (Below.refl _ _) hgrow).frozen (p := ⟨tb, 2, none⟩) O3.out.t.hb n3.2.2.1).trans (O3.out.t.fz 2))
      have S13 := Lib.hid (O3.out.pushS (by rw [HRT.out.1]; exact hown) hgrow hat)
      clear hown hgrow hat kk1 kk2 B3 O3 A3 n3 hle3 k3 S11
      rw [← er]
      go_roundg (p.m - (i + 1))
      case measure => omega
      case rel => exact ⟨i + 1, rfl, rfl, by omega, _, _, _, _, _, S13⟩
  ·have e : i = p.m := by omega
   subst e
   obtain ⟨pa, pc, hpv⟩ := own_form S.out.r.own
   subst hpv
   obtain ⟨i1, hi1, hy0, hy1, hy2⟩ := info_parts (show (Tryz.prog.info? 22).map (fun i => (i.zero, i.size, i.bytes)) = some (some (Value.slice none 0 0), 1, 24) by kernel_rfl)
   have B1 : Hid (Below W1.heap.size W1 (W1.alloc (Obj.cells #[.slice (some ⟨cg, 0, none⟩) wd wd, .slice (some ⟨lg, 0, none⟩) wd wd] 22))) := (Below.refl _ _).alloc (Nat.le_refl _) _
   have O1 := Lib.hid (S.out.on B1.out)
   have A1 : Hid (∀ j u, [Value.slice (some ⟨cg, 0, none⟩) wd wd, .slice (some ⟨lg, 0, none⟩) wd wd][j]? = some u → (W1.alloc (Obj.cells #[.slice (some ⟨cg, 0, none⟩) wd wd, .slice (some ⟨lg, 0, none⟩) wd wd] 22)).cell? ((⟨W1.heap.size, 0, none⟩ : Addr).add j) = some u) := fun j u hu => by
    match j, hu with
    | 0, hu => simp at hu; subst hu; simp [go_sem, Addr.add]
    | 1, hu => simp at hu; subst hu; simp [go_sem, Addr.add]
    | j + 2, hu => simp at hu
   have n1 := O1.out.ap tb (.inr (.inl rfl))
   have hle1 : w.heap.size ≤ (W1.alloc (Obj.cells #[.slice (some ⟨cg, 0, none⟩) wd wd, .slice (some ⟨lg, 0, none⟩) wd wd] 22)).heap.size := O1.out.b.size
   have k1 := S.out.t.c0
   go_wp2_with (at_builtin; refine wpList_append_lies _ rfl _ _ 85 rfl w.heap.size 22 i1 (.slice none 0 0) 1 24 Tryz.underlying85 hi1 hy0 hy1 hy2 rfl (by decide) _ _ _ rfl O1.out.r.own ⟨W1.heap.size, 0, none⟩ 2 2 [.slice (some ⟨cg, 0, none⟩) wd wd, .slice (some ⟨lg, 0, none⟩) wd wd] rfl rfl A1.out (by intro u hu; simp at hu; rcases hu with hu | hu <;> subst hu <;> rfl) (by omega) (by unfold maxLen; omega) (by omega) hle1 _ rfl ?_; intro q cap W9 hown hgrow hat _; have kk1 := ((grown_only (Below.refl _ _) hgrow).cell (p := ⟨tb, 0, none⟩) O1.out.t.hb n1.1).trans O1.out.t.c0; have kk2 := ((grown_only (Below.refl _ _) hgrow).frozen (p := ⟨tb, 0, none⟩) O1.out.t.hb n1.1).trans (O1.out.t.fz 0))
   have F := O1.out.fin hown hgrow hat
   go_ret
   obtain ⟨h1, bb, sb, pa, pb, pc, pd, h2⟩ := F
   exact ⟨h1, tb, q, cap, bb, sb, pa, pb, pc, pd, _, _, rfl, by
    have e2 := HWD.out
    subst e2
    exact fin_sim HV.out h2⟩
end Go.Proofs.YtggpdhdbeokkcaaGreat
