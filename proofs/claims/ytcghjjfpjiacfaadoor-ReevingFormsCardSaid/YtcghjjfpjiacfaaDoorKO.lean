/- Layer 10: a parameter that is a system. -/
import Derived.Test.YtcghjjfpjiacfaaDoorRows
import Derived.Test.YtcghjjfpjiacfaaDoorKX
import Derived.WalkKit
import Derived.ProofKit
import Derived.OpenShut
import Derived.Carry
import Derived.Lib.SmallJoins
import Derived.Deep.SlicePairs
import Derived.Lib.LaidTab
import Derived.LaidMore
import Derived.Lay
import Derived.SevenTiedAt
import Derived.Stop.Joined
import Derived.Stop.LaidErr
import Derived.Deep.DeepHandedRow
import Derived.FnData
namespace Go.Proofs.YtcghjjfpjiacfaaDoor
open Go.ChangeShapes Go.WideShapes Go.ChangeAt Go.RowKit Go.Joins Go.Deep Go.Shelf
set_option linter.unusedVariables false

theorem ki64_bd {x : Int} (h : (Lit.int .i64 x).wf = true) : i64r x := by
  simp [Lit.wf, IntKind.min, IntKind.max, IntKind.signed, IntKind.bits] at h
  exact ⟨by omega, by omega⟩
instance : Inhabited Hld := ⟨⟨ByteArray.empty, 0, 0, 0⟩⟩
instance : Inhabited Rop := ⟨⟨ByteArray.empty, none, 0, 0, fun _ => default, false⟩⟩
set_option maxRecDepth 100000 in
theorem open_hols {H : Type} {enc : TypeId × Value → H} {W : World} {v : Value} {x : DataW H × List MemPlace} {fuel : Nat} (hx : DataW.trod enc Tryd.prog W 0 (fun _ => true) true fuel 56 [v] = some x) :
    ∃ (ra : Option Addr) (n rc : Nat) (f : Nat → Hld), v = .slice ra n rc ∧ HolR W ra n f ∧ (∀ i, i < n → HldRg (f i)) ∧ n ≤ rc ∧ rc ≤ 9223372036854775807 := by
  rcases open_slice Tryd.underlying56 hx with ⟨hc1, _⟩ | ⟨a, len, cap, m, k, D, Pl, hc1, _, hl, hm, hmm, _, hall⟩
  · simp at hc1
    subst hc1
    exact ⟨none, 0, 0, fun _ => default, rfl, fun h => by omega, fun i h => by omega, Nat.le_refl _, by omega⟩
  · simp at hc1
    subst hc1
    simp only [if_true] at hmm
    have ce : Tryd.prog.cellsOf 64 = 4 := by kernel_rfl
    have cs : Tryd.prog.cellsOf 9 = 1 := by kernel_rfl
    have ci : Tryd.prog.cellsOf 3 = 1 := by kernel_rfl
    have cf : Tryd.prog.cellsOf 62 = 2 := by kernel_rfl
    have each : ∀ i, i < m → ∃ q : Hld, W.cell? (a.add (i * 4)) = some (.string q.blk) ∧ W.cell? (a.add (i * 4 + 1)) = some (.int .i64 q.pulls) ∧ W.cell? (a.add (i * 4 + 2)) = some (.int .i64 q.num) ∧ W.cell? (a.add (i * 4 + 3)) = some (.int .i64 q.den) ∧ HldRg q := fun i hi => by
      obtain ⟨cs', g1, g2⟩ := hall i hi
      rw [ce] at g1
      obtain ⟨_, hlen, hcell⟩ := World.cells?_some g1
      obtain ⟨xs, k2, hk, hxy, _, hxl, hf⟩ := DataW.trod_struct Tryd.underlying64 g2
      match xs, hxl, cs', hlen with
      | [x0, x1, x2], _, [u0, u1, u2, u3], _ =>
        have f0 := hf 0 _ rfl
        have f1 := hf 1 _ rfl
        have f2 := hf 2 _ rfl
        have e0 := hcell 0 (by omega)
        have e1 := hcell 1 (by omega)
        have e2 := hcell 2 (by omega)
        have e3 := hcell 3 (by omega)
        rw [add_add] at e0 e1 e2 e3
        have f0' : DataW.trod enc Tryd.prog W 0 (fun _ => true) true k2 9 [u0] = some x0 := by simpa [cs, ci, cf] using f0
        have f1' : DataW.trod enc Tryd.prog W 0 (fun _ => true) true k2 3 [u1] = some x1 := by simpa [cs, ci, cf] using f1
        have f2' : DataW.trod enc Tryd.prog W 0 (fun _ => true) true k2 62 [u2, u3] = some x2 := by simpa [cs, ci, cf] using f2
        obtain ⟨s, hs, _, _⟩ := DataW.trod_string Tryd.underlying9 f0'
        obtain ⟨p, hp, _, wp⟩ := DataW.trod_int Tryd.underlying3 f1'
        obtain ⟨y0, y1, k3, _, _, h0, h1⟩ := trod_struct2 Tryd.underlying62 f2'
        have h0' : DataW.trod enc Tryd.prog W 0 (fun _ => true) true k3 3 [u2] = some y0 := by simpa [ci] using h0
        have h1' : DataW.trod enc Tryd.prog W 0 (fun _ => true) true k3 3 [u3] = some y1 := by simpa [ci] using h1
        obtain ⟨nu, hn, _, wn⟩ := DataW.trod_int Tryd.underlying3 h0'
        obtain ⟨de, hd, _, wd⟩ := DataW.trod_int Tryd.underlying3 h1'
        simp at hs hp hn hd
        subst hs; subst hp; subst hn; subst hd
        exact ⟨⟨s, p, nu, de⟩, by simpa using e0, by simpa using e1, by simpa using e2, by simpa using e3, ⟨ki64_bd wp, ki64_bd wn, ki64_bd wd⟩⟩
    obtain ⟨q, hq⟩ := choose_lt each
    refine ⟨some a, len, cap, q, rfl, fun hm0 => ?_, fun i hi => (hq i (by omega)).2.2.2.2, hl, by unfold maxLen at hm; omega⟩
    obtain ⟨sb, so, spot⟩ := a
    have c0 := (hq 0 (by omega)).1
    have hspot : spot = none := by simpa [Addr.add] using World.cell?_spot c0
    subst hspot
    refine ⟨sb, so, rfl, Lib.lt_of_cell (by simpa [Addr.add] using c0), fun i hi => ?_⟩
    have g := hq i (by omega)
    exact ⟨by simpa [Addr.add_lit] using g.1, by simpa [Addr.add_lit, Nat.add_assoc] using g.2.1, by simpa [Addr.add_lit, Nat.add_assoc] using g.2.2.1, by simpa [Addr.add_lit, Nat.add_assoc] using g.2.2.2.1⟩
set_option maxRecDepth 100000 in
theorem open_rops {H : Type} {enc : TypeId × Value → H} {W : World} {v : Value} {x : DataW H × List MemPlace} {fuel : Nat} (hx : DataW.trod enc Tryd.prog W 0 (fun _ => true) true fuel 34 [v] = some x) :
    ∃ (ra : Option Addr) (n rc : Nat) (R : Nat → Rop), v = .slice ra n rc ∧ RopR W ra n R ∧ (∀ k, k < n → (∀ i, i < (R k).n → HldRg ((R k).hs i)) ∧ (R k).n ≤ (R k).hc ∧ (R k).hc ≤ 9223372036854775807) ∧ n ≤ rc ∧ rc ≤ 9223372036854775807 := by
  rcases open_slice Tryd.underlying34 hx with ⟨hc1, _⟩ | ⟨a, len, cap, m, k, D, Pl, hc1, _, hl, hm, hmm, _, hall⟩
  · simp at hc1
    subst hc1
    exact ⟨none, 0, 0, fun _ => default, rfl, ⟨fun h => by omega, fun i h => by omega⟩, fun i h => by omega, Nat.le_refl _, by omega⟩
  · simp at hc1
    subst hc1
    simp only [if_true] at hmm
    have ce : Tryd.prog.cellsOf 58 = 3 := by kernel_rfl
    have cs : Tryd.prog.cellsOf 9 = 1 := by kernel_rfl
    have cr : Tryd.prog.cellsOf 56 = 1 := by kernel_rfl
    have cb : Tryd.prog.cellsOf 4 = 1 := by kernel_rfl
    have each : ∀ i, i < m → ∃ q : Rop, W.cell? (a.add (i * 3)) = some (.string q.name) ∧ W.cell? (a.add (i * 3 + 1)) = some (.slice q.ha q.n q.hc) ∧ W.cell? (a.add (i * 3 + 2)) = some (.bool q.hauled) ∧ HolR W q.ha q.n q.hs ∧ (∀ i, i < q.n → HldRg (q.hs i)) ∧ q.n ≤ q.hc ∧ q.hc ≤ 9223372036854775807 := fun i hi => by
      obtain ⟨cs', g1, g2⟩ := hall i hi
      rw [ce] at g1
      obtain ⟨_, hlen, hcell⟩ := World.cells?_some g1
      obtain ⟨xs, k2, hk, hxy, _, hxl, hf⟩ := DataW.trod_struct Tryd.underlying58 g2
      match xs, hxl, cs', hlen with
      | [x0, x1, x2], _, [u0, u1, u2], _ =>
        have f0 := hf 0 _ rfl
        have f1 := hf 1 _ rfl
        have f2 := hf 2 _ rfl
        have e0 := hcell 0 (by omega)
        have e1 := hcell 1 (by omega)
        have e2 := hcell 2 (by omega)
        rw [add_add] at e0 e1 e2
        have f0' : DataW.trod enc Tryd.prog W 0 (fun _ => true) true k2 9 [u0] = some x0 := by simpa [cs, cr, cb] using f0
        have f1' : DataW.trod enc Tryd.prog W 0 (fun _ => true) true k2 56 [u1] = some x1 := by simpa [cs, cr, cb] using f1
        have f2' : DataW.trod enc Tryd.prog W 0 (fun _ => true) true k2 4 [u2] = some x2 := by simpa [cs, cr, cb] using f2
        obtain ⟨s, hs, _, _⟩ := DataW.trod_string Tryd.underlying9 f0'
        obtain ⟨ra, n, rc, f, hr, h1, h2, h3, h4⟩ := open_hols f1'
        obtain ⟨b, hb, _⟩ := DataW.trod_bool Tryd.underlying4 f2'
        simp at hs hb
        subst hs; subst hr; subst hb
        exact ⟨⟨s, ra, n, rc, f, b⟩, by simpa using e0, by simpa using e1, by simpa using e2, h1, h2, h3, h4⟩
    obtain ⟨q, hq⟩ := choose_lt each
    refine ⟨some a, len, cap, q, rfl, ⟨fun hm0 => ?_, fun i hi => (hq i (by omega)).2.2.2.1⟩, fun i hi => (hq i (by omega)).2.2.2.2, hl, by unfold maxLen at hm; omega⟩
    obtain ⟨sb, so, spot⟩ := a
    have c0 := (hq 0 (by omega)).1
    have hspot : spot = none := by simpa [Addr.add] using World.cell?_spot c0
    subst hspot
    refine ⟨sb, so, rfl, Lib.lt_of_cell (by simpa [Addr.add] using c0), fun i hi => ?_⟩
    have g := hq i (by omega)
    exact ⟨by simpa [Addr.add_lit] using g.1, by simpa [Addr.add_lit, Nat.add_assoc] using g.2.1, by simpa [Addr.add_lit, Nat.add_assoc] using g.2.2.1⟩
set_option maxRecDepth 100000 in
theorem open_blks {H : Type} {enc : TypeId × Value → H} {W : World} {v : Value} {x : DataW H × List MemPlace} {fuel : Nat} (hx : DataW.trod enc Tryd.prog W 0 (fun _ => true) true fuel 33 [v] = some x) :
    ∃ (ra : Option Addr) (n rc : Nat) (f : Nat → ByteArray) (g : Nat → Int), v = .slice ra n rc ∧ BlkR W ra n f g ∧ (∀ i, i < n → i64r (g i)) ∧ n ≤ rc ∧ rc ≤ 9223372036854775807 := by
  rcases open_slice Tryd.underlying33 hx with ⟨hc1, _⟩ | ⟨a, len, cap, m, k, D, Pl, hc1, _, hl, hm, hmm, _, hall⟩
  · simp at hc1
    subst hc1
    exact ⟨none, 0, 0, fun _ => ByteArray.empty, fun _ => 0, rfl, fun h => by omega, fun i h => by omega, Nat.le_refl _, by omega⟩
  · simp at hc1
    subst hc1
    simp only [if_true] at hmm
    have ce : Tryd.prog.cellsOf 55 = 2 := by kernel_rfl
    have cs : Tryd.prog.cellsOf 9 = 1 := by kernel_rfl
    have ci : Tryd.prog.cellsOf 3 = 1 := by kernel_rfl
    have each : ∀ i, i < m → ∃ q : ByteArray × Int, W.cell? (a.add (i * 2)) = some (.string q.1) ∧ W.cell? (a.add (i * 2 + 1)) = some (.int .i64 q.2) ∧ i64r q.2 := fun i hi => by
      obtain ⟨cs', g1, g2⟩ := hall i hi
      rw [ce] at g1
      obtain ⟨_, hlen, hcell⟩ := World.cells?_some g1
      obtain ⟨xs, k2, hk, hxy, _, hxl, hf⟩ := DataW.trod_struct Tryd.underlying55 g2
      match xs, hxl, cs', hlen with
      | [x0, x1], _, [u0, u1], _ =>
        have f0 := hf 0 _ rfl
        have f1 := hf 1 _ rfl
        have e0 := hcell 0 (by omega)
        have e1 := hcell 1 (by omega)
        rw [add_add] at e0 e1
        have f0' : DataW.trod enc Tryd.prog W 0 (fun _ => true) true k2 9 [u0] = some x0 := by simpa [cs, ci] using f0
        have f1' : DataW.trod enc Tryd.prog W 0 (fun _ => true) true k2 3 [u1] = some x1 := by simpa [cs, ci] using f1
        obtain ⟨s, hs, _, _⟩ := DataW.trod_string Tryd.underlying9 f0'
        obtain ⟨p, hp, _, wp⟩ := DataW.trod_int Tryd.underlying3 f1'
        simp at hs hp
        subst hs; subst hp
        exact ⟨(s, p), by simpa using e0, by simpa using e1, ki64_bd wp⟩
    haveI : Inhabited (ByteArray × Int) := ⟨(ByteArray.empty, 0)⟩
    obtain ⟨q, hq⟩ := choose_lt each
    refine ⟨some a, len, cap, fun i => (q i).1, fun i => (q i).2, rfl, fun hm0 => ?_, fun i hi => (hq i (by omega)).2.2, hl, by unfold maxLen at hm; omega⟩
    obtain ⟨sb, so, spot⟩ := a
    have c0 := (hq 0 (by omega)).1
    have hspot : spot = none := by simpa [Addr.add] using World.cell?_spot c0
    subst hspot
    refine ⟨sb, so, rfl, Lib.lt_of_cell (by simpa [Addr.add] using c0), fun i hi => ?_⟩
    have g := hq i (by omega)
    exact ⟨by simpa [Addr.add_lit] using g.1, by simpa [Addr.add_lit, Nat.add_assoc] using g.2.1⟩
set_option maxRecDepth 1000000 in
theorem open_sys {H : Type} {enc : TypeId × Value → H} {W : World} {base : Nat} {v : Value} {d : DataW H} {p : List MemPlace} (hval : Value.okWide Tryd.prog W .any base 36 v) (h : DataW.Trod enc Tryd.prog W 0 (fun _ => true) true 36 v d p) :
    ∃ s : Sys, v = .agg #[.slice s.ba s.nb s.bc, .slice s.ra s.nr s.rc] ∧ s.At W ∧ SysRg s := by
  obtain ⟨v0, v1, y0, y1, n, rfl, _, _, h0, h1⟩ := open_agg2 Tryd.underlying36 (by kernel_rfl) (by kernel_rfl) hval h
  obtain ⟨ba, nb, bc, bn, bw, rfl, b1, b2, b3, b4⟩ := open_blks h0
  obtain ⟨ra, nr, rc, R, rfl, r1, r2, r3, r4⟩ := open_rops h1
  exact ⟨⟨ba, nb, bc, bn, bw, ra, nr, rc, R⟩, rfl, ⟨b1, r1⟩, ⟨b2, fun k hk => (r2 k hk).1, ⟨b3, b4⟩, ⟨r3, r4⟩, fun k hk => (r2 k hk).2⟩⟩
theorem kpow_of_laid {W : World} (h0 : laidMet Tryd.prog [("math/bits.deBruijn32tab", Rows.laid_math_bits_deBruijn32tab), ("math/bits.deBruijn64tab", Rows.laid_math_bits_deBruijn64tab), ("internal/strconv.uint64pow10", Rows.laid_internal_strconv_uint64pow10)] W) : Pow10 W.heap.size W := by
  have h1 := h0.tail.tail
  rw [show (Rows.laid_internal_strconv_uint64pow10 : DataW Unit) = Lib.tabData .u64 Lib.pow10Tab by kernel_rfl] at h1
  exact Lib.tabBelow_of_tabIs (Lib.tabIs_of_head (g := 1) (by kernel_rfl) (by kernel_rfl) Tryd.underlying189 Tryd.underlying120 (by kernel_rfl) (by kernel_rfl) h1)
end Go.Proofs.YtcghjjfpjiacfaaDoor
