/- Layer 4: the sum of a row's numbers times fractions. Layer 4: products. Layer 4: the reference's Valid. Layer 4: the parameters of the laws, opened. -/
import Derived.Test.YtjggnmbdgagkoaaLNulls
import Derived.OpenShut
import Derived.Lib.SmallJoins
import Derived.Lib.AtoiErrMem
import Derived.Deep.SlicePairs
import Derived.Deep.Matrix
namespace Go.Proofs.Ytjggnmbdgagkoaa
set_option linter.unusedVariables false
open Go.RowKit Go.Shelf

/-- The sum of the first numbers times the first fractions, added from the left to the right. -/
def comS (f : Nat → Int) (X : Nat → Int × Int) : Nat → Int × Int × Int
  | 0 => (0, 1, 0)
  | j + 1 => if (comS f X j).2.2 = 0 then (if (mulT (f j) 1 (X j).1 (X j).2).2.2 = 0 then addT (comS f X j).1 (comS f X j).2.1 (mulT (f j) 1 (X j).1 (X j).2).1 (mulT (f j) 1 (X j).1 (X j).2).2.1 else mulT (f j) 1 (X j).1 (X j).2) else comS f X j
theorem comS_stop {f : Nat → Int} {X : Nat → Int × Int} {j : Nat} (h : (comS f X j).2.2 ≠ 0) : ∀ d, comS f X (j + d) = comS f X j := by
  intro d
  induction d with
  | zero => rfl
  | succ d ih =>
    show (if (comS f X (j + d)).2.2 = 0 then (if (mulT (f (j + d)) 1 (X (j + d)).1 (X (j + d)).2).2.2 = 0 then addT (comS f X (j + d)).1 (comS f X (j + d)).2.1 (mulT (f (j + d)) 1 (X (j + d)).1 (X (j + d)).2).1 (mulT (f (j + d)) 1 (X (j + d)).1 (X (j + d)).2).2.1 else mulT (f (j + d)) 1 (X (j + d)).1 (X (j + d)).2) else comS f X (j + d)) = _
    rw [ih, if_neg h]
theorem comS_end {f : Nat → Int} {X : Nat → Int × Int} {j n : Nat} (h : (comS f X j).2.2 ≠ 0) (hj : j ≤ n) : comS f X n = comS f X j := by
  have := comS_stop h (n - j)
  rwa [show j + (n - j) = n by omega] at this

structure CoS (w W : World) (rb sb : Nat) (x y : Int) : Prop where
  r : Blk W rb (.int .i64 0) (.int .i64 0)
  rf : Frz W rb
  s : Blk W sb (.int .i64 x) (.int .i64 y)
  sf : Frz W sb
  ne : rb ≠ sb
  b : Below w.heap.size w W
  lr : w.heap.size ≤ rb
  ls : w.heap.size ≤ sb
theorem CoS.on {w W W2 : World} {rb sb : Nat} {x y : Int} (h : CoS w W rb sb x y) (hb : Below W.heap.size W W2) : CoS w W2 rb sb x y :=
  ⟨h.r.on hb, h.rf.on h.r.1 hb, h.s.on hb, h.sf.on h.s.1 hb, h.ne, below_on h.b hb, h.lr, h.ls⟩
theorem CoS.set {w W : World} {rb sb : Nat} {x y : Int} (h : CoS w W rb sb x y) (u v : Int) : CoS w ((W.setCell ⟨sb, 0, none⟩ (.int .i64 u)).setCell ⟨sb, 1, none⟩ (.int .i64 v)) rb sb u v :=
  ⟨h.r.far (fun e => h.ne e.symm), h.rf.set, h.s.set, h.sf.set, h.ne, (h.b.setCell h.ls _).setCell h.ls _, h.lr, h.ls⟩

theorem com_start (w : World) : ∀ W, W = (w.alloc (Obj.cells #[Value.int IntKind.i64 0, Value.int IntKind.i64 0] 45)).alloc (Obj.cells #[Value.int IntKind.i64 0, Value.int IntKind.i64 1] 45) → CoS w W w.heap.size (w.heap.size + 1) 0 1 := by
  intro W hW
  subst hW
  have up : ∀ (V : World) (o : Obj), Below V.heap.size V (V.alloc o) := fun V o => (Below.refl _ _).alloc (Nat.le_refl _) _
  have r1 := Blk.new (w.alloc (Obj.cells #[Value.int IntKind.i64 0, Value.int IntKind.i64 0] 45)) (.int .i64 0) (.int .i64 1) 45
  have f1 := Frz.new (w.alloc (Obj.cells #[Value.int IntKind.i64 0, Value.int IntKind.i64 0] 45)) (.int .i64 0) (.int .i64 1) 45
  rw [World.size_alloc] at r1 f1
  exact ⟨(Blk.new w _ _ _).on (up _ _), (Frz.new w _ _ _).on (Blk.new w (.int .i64 0) (.int .i64 0) 45).1 (up _ _), r1, f1, by omega, (by repeat' (first | (with_reducible exact Below.refl _ _) | (with_reducible assumption) | (with_reducible refine Below.alloc ?_ ?_ _) | (with_reducible refine below_drew ?_ _) | (with_reducible refine Below.drew ?_) | (with_reducible refine Below.setCell ?_ ?_ _) | go_size)), Nat.le_refl _, by omega⟩

set_option maxRecDepth 100000 in
set_option maxHeartbeats 16000000 in
theorem combined_any (rg ro rc xg xo xc n : Nat) (f : Nat → Int) (X : Nat → Int × Int) (w : World) (hrg : rg < w.heap.size) (hr : ∀ j, j < n → w.cell? ⟨rg, ro + j, none⟩ = some (.int .i64 (f j))) (hxg : xg < w.heap.size) (hx : ∀ j, j < n → w.cell? ⟨xg, xo + j * 2, none⟩ = some (.int .i64 (X j).1) ∧ w.cell? ⟨xg, xo + j * 2 + 1, none⟩ = some (.int .i64 (X j).2))
    (hf : ∀ j, j < n → -32 ≤ f j ∧ f j ≤ 32) (hv : ∀ j, j < n → Vld (X j).1 (X j).2) (hn : n ≤ 20) :
    Calls Try.prog 56 #[.slice (some ⟨rg, ro, none⟩) n rc, .slice (some ⟨xg, xo, none⟩) n xc] w fun e w' => e = .returned (.tuple #[.agg #[.int .i64 (comS f X n).1, .int .i64 (comS f X n).2.1], .int .i64 (comS f X n).2.2]) ∧ Below w.heap.size w w' := by
  have HR := Lib.hid (And.intro hrg hr)
  have HX := Lib.hid (And.intro hxg hx)
  have HF := Lib.hid hf
  have HV := Lib.hid hv
  clear hrg hr hxg hx hf hv
  obtain ⟨W1, hW1⟩ : ∃ W, W = (w.alloc (Obj.cells #[Value.int IntKind.i64 0, Value.int IntKind.i64 0] 45)).alloc (Obj.cells #[Value.int IntKind.i64 0, Value.int IntKind.i64 1] 45) := ⟨_, rfl⟩
  have S0 := com_start w W1 hW1
  obtain ⟨rb, hrb⟩ : ∃ x, x = w.heap.size := ⟨_, rfl⟩
  obtain ⟨sb, hsb⟩ : ∃ x, x = w.heap.size + 1 := ⟨_, rfl⟩
  rw [← hsb, ← hrb] at S0
  go_enter Try.func56, Try.ntmps56
  go_upto_region 2 with fail
  rw [← hW1, ← hsb, ← hrb]
  clear hW1 hsb hrb
  have S1 : Hid (CoS w W1 rb sb (comS f X 0).1 (comS f X 0).2.1 ∧ (comS f X 0).2.2 = 0 ∧ Vld (comS f X 0).1 (comS f X 0).2.1) := ⟨S0, rfl, (show Vld 0 1 from ⟨by decide, by decide, by decide, by decide, by decide⟩)⟩
  clear S0
  go_wp2_with fail
  go_loopg [14] n (fun g s14 wx => ∃ j : Nat, s14 = .int .i64 j ∧ g = n - j ∧ j ≤ n ∧ Hid (CoS w wx rb sb (comS f X j).1 (comS f X j).2.1 ∧ (comS f X j).2.2 = 0 ∧ Vld (comS f X j).1 (comS f X j).2.1))
  case atStart => exact ⟨0, rfl, rfl, Nat.zero_le _, S1⟩
  case round =>
    clear S1
    obtain ⟨j, rfl, rfl, hj, S⟩ := hrel
    rename World => W2
    by_cases hlt : j < n
    · have wk : IntKind.i64.wrap ((j : Int) + 1) = ((j + 1 : Nat) : Int) := by rw [IntWalk.i64_in _ (by omega)]; omega
      have p1 := (S.out.1.b.cell (p := ⟨rg, ro + j, none⟩) HR.out.1).trans (HR.out.2 j hlt)
      have p2 := (S.out.1.b.cell (p := ⟨xg, xo + j * 2, none⟩) HX.out.1).trans (HX.out.2 j hlt).1
      have p3 := (S.out.1.b.cell (p := ⟨xg, xo + j * 2 + 1, none⟩) HX.out.1).trans (HX.out.2 j hlt).2
      have hfj := HF.out j hlt
      have vx := HV.out j hlt
      have hstep : comS f X (j + 1) = if (mulT (f j) 1 (X j).1 (X j).2).2.2 = 0 then addT (comS f X j).1 (comS f X j).2.1 (mulT (f j) 1 (X j).1 (X j).2).1 (mulT (f j) 1 (X j).1 (X j).2).2.1 else mulT (f j) 1 (X j).1 (X j).2 := by
        rw [comS, if_pos S.out.2.1]
      have HEND := Lib.hid (fun (h : (comS f X (j + 1)).2.2 ≠ 0) => comS_end (f := f) (X := X) (n := n) h (by omega))
      have S2 := S.out
      clear S
      obtain ⟨sn, sd, se, hs⟩ : ∃ a b c, comS f X j = (a, b, c) := ⟨_, _, _, rfl⟩
      rw [hs] at S2 hstep
      obtain ⟨sC, rfl, vs⟩ := S2
      simp only at sC vs hstep
      clear hs
      have HC := Lib.hid sC
      clear sC
      obtain ⟨qn, qd, qe, hq⟩ : ∃ a b c, mulT (f j) 1 (X j).1 (X j).2 = (a, b, c) := ⟨_, _, _, rfl⟩
      rw [hq] at hstep
      simp only at hstep
      have v1 := vx.d1
      have v2 := vx.d2
      have v3 := vx.n1
      have v4 := vx.n2
      have CM := fun W => Lib.hid (Mul_any (f j) 1 (X j).1 (X j).2 W (by omega) (by omega) (by omega) (by omega) (by omega) (by omega) (by omega) (by omega) qn qd qe hq)
      have hmc := mulT_cases (f j) 1 (X j).1 (X j).2
      rw [hq] at hmc
      generalize (X j).1 = xn at *
      generalize (X j).2 = xd at *
      generalize f j = fj at *
      have HST := Lib.hid hstep
      have HMC := Lib.hid hmc
      have HVS := Lib.hid vs
      clear hstep hmc vs vx v1 v2 v3 v4 hq
      go_wp2_with fail
      (with_reducible refine (((CM _).out).mono ?_))
      rintro e w3 ⟨rfl, hb3⟩
      have HC3 := Lib.hid (HC.out.on hb3)
      clear CM hb3 HC p1 p2 p3
      rcases HMC.out with ⟨n', d', e1, _, _, vq, _⟩ | ⟨e', e1, hne, _⟩
      · obtain ⟨rfl, rfl, rfl⟩ := three e1
        have hstep := HST.out
        rw [if_pos rfl] at hstep
        obtain ⟨tn, td, te, ht⟩ : ∃ a b c, addT sn sd qn qd = (a, b, c) := ⟨_, _, _, rfl⟩
        rw [ht] at hstep
        have v1 := vq.d1
        have v2 := vq.d2
        have v3 := vq.n1
        have v4 := vq.n2
        have u1 := HVS.out.d1
        have u2 := HVS.out.d2
        have u3 := HVS.out.n1
        have u4 := HVS.out.n2
        have CA := fun W => Lib.hid (Add_any sn sd qn qd W (by omega) (by omega) (by omega) (by omega) (by omega) (by omega) (by omega) (by omega) tn td te ht)
        have hac := addT_cases sn sd qn qd
        rw [ht] at hac
        have HST2 := Lib.hid hstep
        have HAC := Lib.hid hac
        clear hstep hac ht v1 v2 v3 v4 u1 u2 u3 u4 vq HST HMC e1
        go_upto_region 6 with fail
        have hb4 : Below w3.heap.size w3 (w3.alloc (Obj.cells #[Value.int IntKind.i64 qn, Value.int IntKind.i64 qd] 45)) := (Below.refl _ _).alloc (Nat.le_refl _) _
        have B4 := Blk.new w3 (.int .i64 qn) (.int .i64 qd) 45
        have HC4 := Lib.hid (HC3.out.on hb4)
        obtain ⟨tb, htb⟩ : ∃ x, x = w3.heap.size := ⟨_, rfl⟩
        rw [← htb] at B4
        rw [← htb]
        generalize w3.alloc (Obj.cells #[Value.int IntKind.i64 qn, Value.int IntKind.i64 qd] 45) = W4 at *
        clear hb4 htb HC3
        obtain ⟨_, t0, t1⟩ := B4
        obtain ⟨_, s0, s1⟩ := HC4.out.s
        go_wp2_with fail
        (with_reducible refine (((CA _).out).mono ?_))
        rintro e w5 ⟨rfl, hb5⟩
        have HC5 := Lib.hid (HC4.out.on hb5)
        clear CA hb5 HC4 t0 t1 s0 s1
        obtain ⟨_, s0, s1⟩ := HC5.out.s
        obtain ⟨g0, g1⟩ := HC5.out.sf
        rcases HAC.out with ⟨n', d', e1, _, _, vt, _⟩ | ⟨e', e1, hne, _⟩
        · obtain ⟨rfl, rfl, rfl⟩ := three e1
          have T : Hid (CoS w ((w5.setCell ⟨sb, 0, none⟩ (.int .i64 tn)).setCell ⟨sb, 1, none⟩ (.int .i64 td)) rb sb (comS f X (j + 1)).1 (comS f X (j + 1)).2.1 ∧ (comS f X (j + 1)).2.2 = 0 ∧ Vld (comS f X (j + 1)).1 (comS f X (j + 1)).2.1) := by
            rw [HST2.out]
            exact ⟨HC5.out.set tn td, rfl, vt⟩
          clear vt e1
          go_wp2_with fail
          clear s0 s1 g0 g1 HC5
          go_roundg (n - (j + 1))
          case measure => omega
          case rel => exact ⟨j + 1, rfl, rfl, by omega, T⟩
        · obtain ⟨rfl, rfl, rfl⟩ := three e1
          have HN := Lib.hid hne
          have T := Lib.hid (HC5.out.set 0 0)
          obtain ⟨_, r0, r1⟩ := T.out.r
          obtain ⟨f0, f1⟩ := T.out.rf
          have nb : (te != 0) = true := by simpa using hne
          have HZ : Hid (comS f X n = (0, 0, te)) := by
            have h := HEND.out (by rw [HST2.out]; exact HN.out)
            rw [HST2.out] at h
            exact h
          clear e1
          go_upto_region 9 with fail
          clear s0 s1 g0 g1 HC5
          generalize (w5.setCell ⟨sb, 0, none⟩ (.int .i64 0)).setCell ⟨sb, 1, none⟩ (.int .i64 0) = W6 at *
          have B7 := Lib.hid (Blk.set (x := .int .i64 0) (y := .int .i64 0) T.out.r)
          have HB := Lib.hid ((T.out.b.setCell (p := ⟨rb, 0, none⟩) T.out.lr (.int .i64 0)).setCell (p := ⟨rb, 1, none⟩) T.out.lr (.int .i64 0))
          go_wp2_with fail
          clear r0 r1 f0 f1 T
          generalize (W6.setCell ⟨rb, 0, none⟩ (.int .i64 0)).setCell ⟨rb, 1, none⟩ (.int .i64 0) = W7 at *
          have x0 := B7.out.2.1
          have x1 := B7.out.2.2
          (try simp only [Exit.inBlock, Exit.then])
          (first
            | refine bodyPost_ret (by simp [results, Try.results56, x0, x1, go_sem]; rfl) rfl ?_
            | refine bodyPost_ret (by simp [results, Try.results56, x0, x1, go_sem]) rfl ?_)
          exact ⟨by rw [HZ.out], HB.out⟩
      · obtain ⟨rfl, rfl, rfl⟩ := three e1
        have HN := Lib.hid hne
        have nb : (qe != 0) = true := by simpa using hne
        have nb2 : (qe == 0) = false := by simpa using hne
        have hst := HST.out
        rw [if_neg hne] at hst
        have HZ : Hid (comS f X n = (0, 0, qe)) := by
          have h := HEND.out (by rw [hst]; exact HN.out)
          rw [hst] at h
          exact h
        clear e1 hst HST HMC
        go_upto_region 9 with fail
        have hb4 : Below w3.heap.size w3 (w3.alloc (Obj.cells #[Value.int IntKind.i64 0, Value.int IntKind.i64 0] 45)) := (Below.refl _ _).alloc (Nat.le_refl _) _
        have T := Lib.hid (HC3.out.on hb4)
        obtain ⟨tb, htb⟩ : ∃ x, x = w3.heap.size := ⟨_, rfl⟩
        rw [← htb]
        generalize w3.alloc (Obj.cells #[Value.int IntKind.i64 0, Value.int IntKind.i64 0] 45) = W6 at *
        clear hb4 htb HC3
        obtain ⟨_, r0, r1⟩ := T.out.r
        obtain ⟨f0, f1⟩ := T.out.rf
        have B7 := Lib.hid (Blk.set (x := .int .i64 0) (y := .int .i64 0) T.out.r)
        have HB := Lib.hid ((T.out.b.setCell (p := ⟨rb, 0, none⟩) T.out.lr (.int .i64 0)).setCell (p := ⟨rb, 1, none⟩) T.out.lr (.int .i64 0))
        go_wp2_with fail
        clear r0 r1 f0 f1 T
        generalize (W6.setCell ⟨rb, 0, none⟩ (.int .i64 0)).setCell ⟨rb, 1, none⟩ (.int .i64 0) = W7 at *
        have x0 := B7.out.2.1
        have x1 := B7.out.2.2
        (try simp only [Exit.inBlock, Exit.then])
        (first
          | refine bodyPost_ret (by simp [results, Try.results56, x0, x1, go_sem]; rfl) rfl ?_
          | refine bodyPost_ret (by simp [results, Try.results56, x0, x1, go_sem]) rfl ?_)
        exact ⟨by rw [HZ.out], HB.out⟩
    · have e : j = n := by omega
      subst e
      have hz := S.out.2.1
      obtain ⟨_, s0, s1⟩ := S.out.1.s
      obtain ⟨_, r0, r1⟩ := S.out.1.r
      obtain ⟨f0, f1⟩ := S.out.1.rf
      have B4 := Lib.hid (Blk.set (x := .int .i64 (comS f X j).1) (y := .int .i64 (comS f X j).2.1) S.out.1.r)
      have HB := Lib.hid ((S.out.1.b.setCell (p := ⟨rb, 0, none⟩) S.out.1.lr (.int .i64 (comS f X j).1)).setCell (p := ⟨rb, 1, none⟩) S.out.1.lr (.int .i64 (comS f X j).2.1))
      have HZ := Lib.hid hz
      clear hz
      go_wp2_with fail
      clear s0 s1 r0 r1 f0 f1 S
      generalize (W2.setCell ⟨rb, 0, none⟩ (.int .i64 (comS f X j).1)).setCell ⟨rb, 1, none⟩ (.int .i64 (comS f X j).2.1) = W4 at *
      have x0 := B4.out.2.1
      have x1 := B4.out.2.2
      (try simp only [Exit.inBlock, Exit.then])
      (first
        | refine bodyPost_ret (by simp [results, Try.results56, x0, x1, go_sem]; rfl) rfl ?_
        | refine bodyPost_ret (by simp [results, Try.results56, x0, x1, go_sem]) rfl ?_)
      exact ⟨by rw [HZ.out], HB.out⟩

end Go.Proofs.Ytjggnmbdgagkoaa

namespace Go.Proofs.Ytjggnmbdgagkoaa
set_option linter.unusedVariables false
open Go.RowKit Go.Shelf

/-- A list of fractions that is read alone; nil, or empty, or not. -/
def IFr (W : World) (xa : Option Addr) (n : Nat) (X : Nat → Int × Int) : Prop := 0 < n → ∃ g o, xa = some ⟨g, o, none⟩ ∧ g < W.heap.size ∧ ∀ j, j < n → W.cell? ⟨g, o + j * 2, none⟩ = some (.int .i64 (X j).1) ∧ W.cell? ⟨g, o + j * 2 + 1, none⟩ = some (.int .i64 (X j).2)
theorem IFr.on {W W2 : World} {xa : Option Addr} {n : Nat} {X : Nat → Int × Int} (h : IFr W xa n X) (hb : Below W.heap.size W W2) : IFr W2 xa n X := fun hn => by
  obtain ⟨g, o, h1, h2, h3⟩ := h hn
  exact ⟨g, o, h1, Nat.lt_of_lt_of_le h2 hb.size, fun j hj => ⟨(hb.cell (p := ⟨g, o + j * 2, none⟩) h2).trans (h3 j hj).1, (hb.cell (p := ⟨g, o + j * 2 + 1, none⟩) h2).trans (h3 j hj).2⟩⟩

/-- What comes out for a valid matrix. -/
def ProP (R n nx : Nat) (Z : Nat → Nat → Int) (X : Nat → Int × Int) (w' : World) (e : Ending) : Prop :=
  ((∃ k, k < nx ∧ vB (X k).1 (X k).2 = false) ∧ e = .returned (.tuple #[.slice none 0 0, .int .i64 1])) ∨
  ((∀ k, k < nx → vB (X k).1 (X k).2 = true) ∧
    ((nx ≠ n ∧ e = .returned (.tuple #[.slice none 0 0, .int .i64 3])) ∨
     (nx = n ∧ ((∃ i, i < R ∧ (∀ l, l < i → (comS (Z l) X n).2.2 = 0) ∧ (comS (Z i) X n).2.2 ≠ 0 ∧ e = .returned (.tuple #[.slice none 0 0, .int .i64 (comS (Z i) X n).2.2])) ∨
       ((∀ l, l < R → (comS (Z l) X n).2.2 = 0) ∧ ∃ xb, e = .returned (.tuple #[.slice (some ⟨xb, 0, none⟩) R R, .int .i64 0]) ∧ FrX w' xb R (fun l => ((comS (Z l) X n).1, (comS (Z l) X n).2.1)))))))

section
variable (ma : Option Addr) (R mc : Nat) (Ra : Nat → Option Addr) (Ln Ka : Nat → Nat) (Z : Nat → Nat → Int) (xa : Option Addr) (nx xc : Nat) (X : Nat → Int × Int) (w : World)

theorem Product_bad (hM : AMat w ma R Ra Ln Ka Z) (hR : R ≤ 9223372036854775807) (hv : ¬ vMP R Ln Z) :
    Calls Try.prog 28 #[.slice ma R mc, .slice xa nx xc] w fun e w' => e = .returned (.tuple #[.slice none 0 0, .int .i64 1]) ∧ Below w.heap.size w w' := by
  have CV := Lib.hid (lValid_any ma R mc Ra Ln Ka Z w hM hR)
  rw [vM_no hv] at CV
  clear hM hv
  go_enter Try.func28, Try.ntmps28
  go_wp2_with fail
  (with_reducible refine ((CV.out).mono ?_))
  rintro e w1 ⟨rfl, hb⟩
  go_wp2_with fail
  go_returns
  exact ⟨rfl, hb⟩

set_option maxRecDepth 100000 in
set_option maxHeartbeats 16000000 in
theorem Product_ok (n : Nat) (hn : Ln 0 = n) (hM : AMat w ma R Ra Ln Ka Z) (hv : vMP R Ln Z) (hx : IFr w xa nx X) (hr : ∀ k, k < nx → FrI (X k)) (hnx : nx ≤ 20) :
    Calls Try.prog 28 #[.slice ma R mc, .slice xa nx xc] w fun e w' => Below w.heap.size w w' ∧ ProP R n nx Z X w' e := by
  have CV := Lib.hid (lValid_any ma R mc Ra Ln Ka Z w hM (by have := hv.2.1; omega))
  rw [vM_true.2 hv] at CV
  obtain ⟨mb, mo, hma, hMt⟩ := hM.mat hv
  rw [hn] at hMt
  have HM := Lib.hid hMt
  have HX := Lib.hid hx
  have HRG := Lib.hid hr
  have HZ : Hid (∀ i, i < R → ∀ j, j < n → -32 ≤ Z i j ∧ Z i j ≤ 32) := fun i hi j hj => (hv.2.2.2.2 i hi).2 j (by rw [(hv.2.2.2.2 i hi).1, hn]; exact hj)
  have hR0 : 0 < R := hv.1
  have hR6 : R ≤ 6 := hv.2.1
  have hn12 : n ≤ 12 := by have := hv.2.2.2.1; omega
  have hn0 : 0 < n := by have := hv.2.2.1; omega
  clear hM hv hMt hx hr hn
  subst hma
  obtain ⟨i0, hi0, hz0, hz1, hz2⟩ := info_parts (show (Try.prog.info? 45).map (fun i => (i.zero, i.size, i.bytes)) = some (some (Value.agg #[Value.int IntKind.i64 0, Value.int IntKind.i64 0]), 2, 16) by kernel_rfl)
  go_enter Try.func28, Try.ntmps28
  go_wp2_with fail
  (with_reducible refine ((CV.out).mono ?_))
  rintro e w1 ⟨rfl, hb1⟩
  have S0 : Hid (Below w.heap.size w w1 ∧ ∀ l, l < 0 → vB (X l).1 (X l).2 = true) := ⟨hb1, fun l h => by omega⟩
  clear CV hb1
  go_wp2_with fail
  go_loopg [18] nx (fun g s18 wx => ∃ k : Nat, s18 = .int .i64 k ∧ g = nx - k ∧ k ≤ nx ∧ Hid (Below w.heap.size w wx ∧ ∀ l, l < k → vB (X l).1 (X l).2 = true))
  case atStart => exact ⟨0, rfl, rfl, Nat.zero_le _, S0⟩
  case round =>
    clear S0
    obtain ⟨k, rfl, rfl, hk, S⟩ := hrel
    rename World => W2
    by_cases hlt : k < nx
    · have wk : IntKind.i64.wrap ((k : Int) + 1) = ((k + 1 : Nat) : Int) := by rw [IntWalk.i64_in _ (by omega)]; omega
      obtain ⟨xg, xo, rfl, hxg, hxc⟩ := HX.out (by omega)
      have p1 := (S.out.1.cell (p := ⟨xg, xo + k * 2, none⟩) hxg).trans (hxc k hlt).1
      have p2 := (S.out.1.cell (p := ⟨xg, xo + k * 2 + 1, none⟩) hxg).trans (hxc k hlt).2
      have Qk := HRG.out k hlt
      obtain ⟨tv, htv⟩ : ∃ v, vB (X k).1 (X k).2 = v := ⟨_, rfl⟩
      have CB := fun w => Lib.hid (Valid_any _ _ w Qk.n0 Qk.n1 Qk.d0 Qk.d1)
      rw [htv] at CB
      have HTV := Lib.hid htv
      clear hxc hxg Qk htv
      generalize hxx : (X k).1 = xn at p1 CB
      generalize hyy : (X k).2 = xd at p2 CB
      clear hxx hyy
      go_upto_region 6 with fail
      have hb4 : Below W2.heap.size W2 (W2.alloc (Obj.cells #[Value.int IntKind.i64 xn, Value.int IntKind.i64 xd] 45)) := (Below.refl _ _).alloc (Nat.le_refl _) _
      have B4 := Blk.new W2 (.int .i64 xn) (.int .i64 xd) 45
      have HB4 := Lib.hid (below_on S.out.1 hb4)
      obtain ⟨tb, htb⟩ : ∃ x, x = W2.heap.size := ⟨_, rfl⟩
      rw [← htb] at B4
      rw [← htb]
      generalize W2.alloc (Obj.cells #[Value.int IntKind.i64 xn, Value.int IntKind.i64 xd] 45) = W4 at *
      clear hb4 htb p1 p2
      obtain ⟨_, t0, t1⟩ := B4
      go_wp2_with fail
      (with_reducible refine (((CB _).out).mono ?_))
      rintro e w5 ⟨rfl, hb5⟩
      have HB5 := Lib.hid (below_on HB4.out hb5)
      clear CB hb5 t0 t1
      cases tv
      · go_wp2_with fail
        go_returns
        exact ⟨HB5.out, .inl ⟨⟨k, hlt, HTV.out⟩, rfl⟩⟩
      · have T : Hid (Below w.heap.size w w5 ∧ ∀ l, l < k + 1 → vB (X l).1 (X l).2 = true) := ⟨HB5.out, fun l hl => by
          by_cases e : l = k
          · rw [e]; exact HTV.out
          · exact S.out.2 l (by omega)⟩
        clear S HB4 HB5 HTV
        go_wp2_with fail
        go_roundg (nx - (k + 1))
        case measure => omega
        case rel => exact ⟨k + 1, rfl, rfl, by omega, T⟩
    · have e : k = nx := by omega
      subst e
      have HB2 := Lib.hid S.out.1
      have HVA := Lib.hid S.out.2
      clear S
      have p0 := (HM.out.on HB2.out).top 0 hR0
      rw [Nat.add_zero] at p0
      by_cases hkn : k = n
      · subst hkn
        go_upto_region 12 with (refine wpList_make_full _ rfl _ _ 35 rfl w.heap.size 45 i0 (Value.agg #[Value.int IntKind.i64 0, Value.int IntKind.i64 0]) 2 Try.underlying35 hi0 hz0 hz1 _ _ _ _ R rfl rfl rfl rfl (by rw [hz2]; omega) (by unfold maxLen; omega) HB2.out.size ?_; intro w3 ho hg)
        have hb6 : Below W2.heap.size W2 w3 := ⟨hg.os, hg.tape, hg.output, hg.size, fun k hk => hg.block k hk (by simp)⟩
        obtain ⟨xb, hxb⟩ : ∃ x, x = W2.heap.size := ⟨_, rfl⟩
        have F0 := FrX.made ho hR0
        rw [← hxb] at F0
        rw [← hxb]
        have S0 : Hid ((FrX w3 xb R (fun l => if l < 0 then ((comS (Z l) X k).1, (comS (Z l) X k).2.1) else (0, 0)) ∧ Below W2.heap.size W2 w3) ∧ ∀ l, l < 0 → (comS (Z l) X k).2.2 = 0) := ⟨⟨F0.congr fun l _ => if_neg (by omega), hb6⟩, fun l h => by omega⟩
        have HXB := Lib.hid hxb
        clear p0 ho hg hb6 F0 hxb hi0 hz0 hz1 hz2 i0
        go_wp2_with fail
        go_loopg [38] R (fun g s38 wx => ∃ i : Nat, s38 = .int .i64 i ∧ g = R - i ∧ i ≤ R ∧ Hid ((FrX wx xb R (fun l => if l < i then ((comS (Z l) X k).1, (comS (Z l) X k).2.1) else (0, 0)) ∧ Below W2.heap.size W2 wx) ∧ ∀ l, l < i → (comS (Z l) X k).2.2 = 0))
        case atStart => exact ⟨0, rfl, rfl, Nat.zero_le _, S0⟩
        case round =>
          clear S0
          obtain ⟨i, rfl, rfl, hi, S⟩ := hrel
          rename World => W6
          by_cases hlti : i < R
          · have wk : IntKind.i64.wrap ((i : Int) + 1) = ((i + 1 : Nat) : Int) := by rw [IntWalk.i64_in _ (by omega)]; omega
            have HB6 := Lib.hid (below_on HB2.out S.out.1.2)
            have M6 := HM.out.on HB6.out
            have p1 := M6.top i hlti
            obtain ⟨xg, xo, rfl, hxg, hxc⟩ := (HX.out.on HB6.out) hn0
            obtain ⟨tn, td, te, ht⟩ : ∃ a b c, comS (Z i) X k = (a, b, c) := ⟨_, _, _, rfl⟩
            have CO0 := combined_any _ _ (Ka i) xg xo xc k (Z i) X W6 (M6.row i hlti) (fun j hj => M6.cell i j hlti hj) hxg hxc (HZ.out i hlti) (fun j hj => vB_vld (HVA.out j hj)) (by omega)
            rw [ht] at CO0
            have CO := Lib.hid CO0
            have HTT := Lib.hid ht
            clear M6 hxg hxc ht CO0
            go_wp2_with fail
            (with_reducible refine ((CO.out).mono ?_))
            rintro e w7 ⟨rfl, hb7⟩
            have HF7 := Lib.hid (S.out.1.1.on hb7)
            have HB7 := Lib.hid (below_on S.out.1.2 hb7)
            have HE7 := Lib.hid S.out.2
            clear CO hb7 S p1 HB6
            by_cases hte : te = 0
            · subst hte
              go_upto_region 16 with fail
              have hb8 : Below w7.heap.size w7 (w7.alloc (Obj.cells #[Value.int IntKind.i64 tn, Value.int IntKind.i64 td] 45)) := (Below.refl _ _).alloc (Nat.le_refl _) _
              have B8 := Blk.new w7 (.int .i64 tn) (.int .i64 td) 45
              have HF8 := Lib.hid (HF7.out.on hb8)
              have HB8 := Lib.hid (below_on HB7.out hb8)
              obtain ⟨tb, htb⟩ : ∃ x, x = w7.heap.size := ⟨_, rfl⟩
              rw [← htb] at B8
              rw [← htb]
              generalize w7.alloc (Obj.cells #[Value.int IntKind.i64 tn, Value.int IntKind.i64 td] 45) = W8 at *
              clear hb8 htb HF7 HB7
              obtain ⟨_, t0, t1⟩ := B8
              have x0 := HF8.out.c0 i hlti
              have x1 := HF8.out.c1 i hlti
              have y0 := HF8.out.f0 i hlti
              have y1 := HF8.out.f1 i hlti
              go_wp2_with fail
              have T : Hid ((FrX ((W8.setCell ⟨xb, i * 2, none⟩ (.int .i64 tn)).setCell ⟨xb, i * 2 + 1, none⟩ (.int .i64 td)) xb R (fun l => if l < i + 1 then ((comS (Z l) X k).1, (comS (Z l) X k).2.1) else (0, 0)) ∧ Below W2.heap.size W2 ((W8.setCell ⟨xb, i * 2, none⟩ (.int .i64 tn)).setCell ⟨xb, i * 2 + 1, none⟩ (.int .i64 td))) ∧ ∀ l, l < i + 1 → (comS (Z l) X k).2.2 = 0) :=
                ⟨⟨(HF8.out.set i hlti tn td).congr fun l hl => by
                  unfold updF
                  by_cases e : l = i
                  · subst e; rw [if_pos (by omega), if_pos rfl, HTT.out]
                  · rw [if_neg e]
                    show _ = if l < i then ((comS (Z l) X k).1, (comS (Z l) X k).2.1) else (0, 0)
                    by_cases g : l < i
                    · rw [if_pos g, if_pos (by omega)]
                    · rw [if_neg g, if_neg (by omega)], (HB8.out.setCell (by show W2.heap.size ≤ xb; rw [HXB.out]; exact Nat.le_refl _) _).setCell (by show W2.heap.size ≤ xb; rw [HXB.out]; exact Nat.le_refl _) _⟩, fun l hl => by
                  by_cases e : l = i
                  · subst e; rw [HTT.out]
                  · exact HE7.out l (by omega)⟩
              clear t0 t1 x0 x1 y0 y1 HF8 HB8
              go_roundg (R - (i + 1))
              case measure => omega
              case rel => exact ⟨i + 1, rfl, rfl, by omega, T⟩
            · have nb : (te != 0) = true := by simpa using hte
              go_wp2_with fail
              go_returns
              exact ⟨HB2.out.trans ((HB7.out.alloc HB7.out.size _).mono HB2.out.size), .inr ⟨HVA.out, .inr ⟨rfl, .inl ⟨i, hlti, HE7.out, by rw [HTT.out]; exact hte, by rw [HTT.out]; rfl⟩⟩⟩⟩
          · have e : i = R := by omega
            subst e
            go_wp2_with fail
            go_returns
            exact ⟨HB2.out.trans (S.out.1.2.mono HB2.out.size), .inr ⟨HVA.out, .inr ⟨rfl, .inr ⟨S.out.2, xb, rfl, S.out.1.1.congr fun l hl => (if_pos hl).symm⟩⟩⟩⟩
      · have t1 : ¬ ((k : Int) = (n : Int)) := by omega
        go_wp2_with fail
        go_returns
        exact ⟨HB2.out, .inr ⟨HVA.out, .inl ⟨hkn, rfl⟩⟩⟩
end

end Go.Proofs.Ytjggnmbdgagkoaa

namespace Go.Proofs.Ytjggnmbdgagkoaa
set_option linter.unusedVariables false
open Go.RowKit Go.Shelf

theorem refWithin_any (n most : Int) (w : World) (m0 : 0 ≤ most) (m1 : most ≤ 67108864) :
    Calls Try.prog 46 #[.int .i64 n, .int .i64 most] w fun e w' => e = .returned (.bool (decide (-most ≤ n ∧ n ≤ most))) ∧ Below w.heap.size w w' := by
  have wn : IntKind.i64.wrap (-most) = -most := IntWalk.i64_in _ (by omega)
  by_cases h1 : -most ≤ n
  · by_cases h2 : n ≤ most
    · have hd : decide (-most ≤ n ∧ n ≤ most) = true := decide_eq_true ⟨h1, h2⟩
      have HD := Lib.hid hd
      clear hd
      go_enter Try.func46, Try.ntmps46
      go_wp2_with fail
      go_ret
      exact ⟨by rw [HD.out]; rfl, Below.refl _ _⟩
    · have hd : decide (-most ≤ n ∧ n ≤ most) = false := decide_eq_false fun h => h2 h.2
      have HD := Lib.hid hd
      clear hd
      go_enter Try.func46, Try.ntmps46
      go_wp2_with fail
      go_ret
      exact ⟨by simp [h2], Below.refl _ _⟩
  · have hd : decide (-most ≤ n ∧ n ≤ most) = false := decide_eq_false fun h => h1 h.1
    have HD := Lib.hid hd
    clear hd
    go_enter Try.func46, Try.ntmps46
    go_wp2_with fail
    go_ret
    exact ⟨by simp; omega, Below.refl _ _⟩

set_option maxRecDepth 100000 in
set_option maxHeartbeats 16000000 in
theorem lrValid_any (ma : Option Addr) (R mc : Nat) (Ra : Nat → Option Addr) (Ln Ka : Nat → Nat) (Z : Nat → Nat → Int) (w : World) (hM : AMat w ma R Ra Ln Ka Z) (hR : R ≤ 9223372036854775807) :
    Calls Try.prog 15 #[.slice ma R mc] w fun e w' => e = .returned (.bool (vM R Ln Z)) ∧ Below w.heap.size w w' := by
  by_cases h0 : 1 ≤ R ∧ R ≤ 6
  · obtain ⟨r0, r1⟩ := h0
    obtain ⟨mb, mo, rfl, h2, h3⟩ := hM.top (by omega)
    have hl0 := hM.small 0 (by omega)
    have HT := Lib.hid (And.intro h2 h3)
    have HRW := Lib.hid hM.row
    have HSM := Lib.hid hM.small
    have p0 := h3 0 (by omega)
    rw [Nat.add_zero] at p0
    clear hM h2 h3
    have t0 : ¬ ((R : Int) < 1) := by omega
    have t1 : ¬ (6 < (R : Int)) := by omega
    by_cases h1 : 1 ≤ Ln 0 ∧ Ln 0 ≤ 12
    · obtain ⟨l0, l1⟩ := h1
      have t2 : ¬ ((Ln 0 : Int) < 1) := by omega
      have t3 : ¬ (12 < (Ln 0 : Int)) := by omega
      have CW := fun n w => Lib.hid (refWithin_any n 32 w (by omega) (by omega))
      go_enter Try.func15, Try.ntmps15
      go_wp2_with fail
      clear p0
      have S0 : Hid (Below w.heap.size w w ∧ ∀ l, l < 0 → Ln l = Ln 0 ∧ ∀ j, j < Ln l → -32 ≤ Z l j ∧ Z l j ≤ 32) := ⟨Below.refl _ _, fun l h => by omega⟩
      go_loopg [3] R (fun g s3 wx => ∃ i : Nat, s3 = .int .i64 i ∧ g = R - i ∧ i ≤ R ∧ Hid (Below w.heap.size w wx ∧ ∀ l, l < i → Ln l = Ln 0 ∧ ∀ j, j < Ln l → -32 ≤ Z l j ∧ Z l j ≤ 32))
      case atStart => exact ⟨0, rfl, rfl, Nat.zero_le _, S0⟩
      case round =>
        clear S0
        obtain ⟨i, rfl, rfl, hi, S⟩ := hrel
        rename World => W1
        by_cases hlt : i < R
        · have wk : IntKind.i64.wrap ((i : Int) + 1) = ((i + 1 : Nat) : Int) := by rw [IntWalk.i64_in _ (by omega)]; omega
          have p1 := (S.out.1.cell (p := ⟨mb, mo + i, none⟩) HT.out.1).trans (HT.out.2 i hlt)
          have p0 := (S.out.1.cell (p := ⟨mb, mo + 0, none⟩) HT.out.1).trans (HT.out.2 0 (by omega))
          rw [Nat.add_zero] at p0
          have HB1 := Lib.hid S.out.1
          have HP1 := Lib.hid p1
          have hli := HSM.out i hlt
          go_upto_region 6 with fail
          by_cases hne : Ln i = Ln 0
          · have tne : ((Ln i : Int) != (Ln 0 : Int)) = false := by simp [hne]
            have HNE := Lib.hid hne
            go_quiet (fail)
            have S1 : Hid (Below w.heap.size w (W1.drewN nq) ∧ ∀ j, j < 0 → -32 ≤ Z i j ∧ Z i j ≤ 32) := ⟨below_drewN' HB1.out nq, fun j h => by omega⟩
            have HS := Lib.hid S.out.2
            generalize W1.drewN nq = W2 at *
            clear p0 p1 S tne hne HB1 HP1
            go_wp2_with fail
            go_loopg [4] (Ln i) (fun g s4 wx => ∃ j : Nat, s4 = .int .i64 j ∧ g = Ln i - j ∧ j ≤ Ln i ∧ Hid (Below w.heap.size w wx ∧ ∀ l, l < j → -32 ≤ Z i l ∧ Z i l ≤ 32))
            case atStart => exact ⟨0, rfl, rfl, Nat.zero_le _, S1⟩
            case round =>
              clear S1
              obtain ⟨j, rfl, rfl, hj, S⟩ := hrel
              rename World => W3
              have p1 := (S.out.1.cell (p := ⟨mb, mo + i, none⟩) HT.out.1).trans (HT.out.2 i hlt)
              by_cases hltj : j < Ln i
              · have wkj : IntKind.i64.wrap ((j : Int) + 1) = ((j + 1 : Nat) : Int) := by rw [IntWalk.i64_in _ (by omega)]; omega
                obtain ⟨g, o, hra, hg, hc⟩ := HRW.out i hlt (by omega)
                have p2 := (S.out.1.cell (p := ⟨g, o + j, none⟩) hg).trans (hc j hltj)
                rw [hra] at p1
                obtain ⟨tv, htv⟩ : ∃ v, decide (-32 ≤ Z i j ∧ Z i j ≤ 32) = v := ⟨_, rfl⟩
                have CI0 := fun w => refWithin_any (Z i j) 32 w (by omega) (by omega)
                simp only [htv] at CI0
                have CI := fun w => Lib.hid (CI0 w)
                have HTV := Lib.hid htv
                clear htv CI0 hc hg hra
                go_wp2_with fail
                (with_reducible refine (((CI _).out).mono ?_))
                rintro e w5 ⟨rfl, hb5⟩
                have HB5 := Lib.hid (below_on S.out.1 hb5)
                clear CI hb5 p1 p2
                cases tv
                · have HV := Lib.hid (vM_no (R := R) (Ln := Ln) (Z := Z) fun g => of_decide_eq_false HTV.out ((g.2.2.2.2 i hlt).2 j hltj))
                  go_wp2_with fail
                  go_ret
                  exact ⟨by rw [HV.out]; rfl, HB5.out⟩
                · have T : Hid (Below w.heap.size w w5 ∧ ∀ l, l < j + 1 → -32 ≤ Z i l ∧ Z i l ≤ 32) := ⟨HB5.out, fun l hl => by
                    by_cases e : l = j
                    · rw [e]; exact of_decide_eq_true HTV.out
                    · exact S.out.2 l (by omega)⟩
                  clear S HB5 HTV
                  go_wp2_with fail
                  go_roundg (Ln i - (j + 1))
                  case measure => omega
                  case rel => exact ⟨j + 1, rfl, rfl, by omega, T⟩
              · have e : j = Ln i := by omega
                have T : Hid (Below w.heap.size w W3 ∧ ∀ l, l < i + 1 → Ln l = Ln 0 ∧ ∀ j, j < Ln l → -32 ≤ Z l j ∧ Z l j ≤ 32) := ⟨S.out.1, fun l hl => by
                  by_cases e2 : l = i
                  · rw [e2]; exact ⟨HNE.out, fun q hq => S.out.2 q (by omega)⟩
                  · exact HS.out l (by omega)⟩
                clear S
                subst e
                go_wp2_with fail
                go_roundg (R - (i + 1))
                case measure => omega
                case rel => exact ⟨i + 1, rfl, rfl, by omega, T⟩
          · have tne : ((Ln i : Int) != (Ln 0 : Int)) = true := by simp; omega
            have tn2 : ¬ ((Ln i : Int) = (Ln 0 : Int)) := by omega
            have HV := Lib.hid (vM_no (R := R) (Ln := Ln) (Z := Z) fun g => hne (g.2.2.2.2 i hlt).1)
            go_quiet (fail)
            clear p1 p0
            go_wp2_with fail
            go_ret
            exact ⟨by rw [HV.out]; rfl, below_drewN' HB1.out _⟩
        · have e : i = R := by omega
          subst e
          have HV := Lib.hid (vM_true.2 (show vMP i Ln Z from ⟨r0, r1, l0, l1, S.out.2⟩))
          go_wp2_with fail
          go_ret
          exact ⟨by rw [HV.out]; rfl, S.out.1⟩
    · have HV := Lib.hid (vM_no (R := R) (Ln := Ln) (Z := Z) fun g => h1 ⟨g.2.2.1, g.2.2.2.1⟩)
      by_cases h4 : Ln 0 < 1
      · have t2 : ((Ln 0 : Int) < 1) := by omega
        go_enter Try.func15, Try.ntmps15
        go_wp2_with fail
        go_ret
        exact ⟨by rw [HV.out]; rfl, Below.refl _ _⟩
      · have t2 : ¬ ((Ln 0 : Int) < 1) := by omega
        have t3 : (12 < (Ln 0 : Int)) := by omega
        go_enter Try.func15, Try.ntmps15
        go_wp2_with fail
        go_ret
        exact ⟨by rw [HV.out]; rfl, Below.refl _ _⟩
  · have HV := Lib.hid (vM_no (R := R) (Ln := Ln) (Z := Z) fun g => h0 ⟨g.1, g.2.1⟩)
    clear hM
    by_cases h4 : R < 1
    · have t2 : ((R : Int) < 1) := by omega
      go_enter Try.func15, Try.ntmps15
      go_wp2_with fail
      go_ret
      exact ⟨by rw [HV.out]; rfl, Below.refl _ _⟩
    · have t2 : ¬ ((R : Int) < 1) := by omega
      have t3 : (6 < (R : Int)) := by omega
      go_enter Try.func15, Try.ntmps15
      go_wp2_with fail
      go_ret
      exact ⟨by rw [HV.out]; rfl, Below.refl _ _⟩

end Go.Proofs.Ytjggnmbdgagkoaa

namespace Go.Proofs.Ytjggnmbdgagkoaa
open Go.ChangeShapes Go.WideShapes Go.ChangeAt Go.RowKit Go.Joins Go.Deep
set_option linter.unusedVariables false

theorem i64_bd {x : Int} (h : (Lit.int .i64 x).wf = true) : -9223372036854775808 ≤ x ∧ x ≤ 9223372036854775807 := by
  simp [Lit.wf, IntKind.min, IntKind.max, IntKind.signed, IntKind.bits] at h
  exact ⟨by omega, by omega⟩
theorem u8_bd {x : Int} (h : (Lit.int .u8 x).wf = true) : 0 ≤ x ∧ x ≤ 255 := by
  simp [Lit.wf, IntKind.min, IntKind.max, IntKind.signed, IntKind.bits] at h
  exact ⟨by omega, by omega⟩

set_option maxRecDepth 100000 in
theorem open_frs {H : Type} {enc : TypeId × Value → H} {W : World} {base : Nat} {v : Value} {d : DataW H} {p : List MemPlace} (hval : Value.okWide Try.prog W .any base 35 v) (h : DataW.Trod enc Try.prog W 0 (fun _ => true) true 35 v d p) :
    ∃ (ao : Option Addr) (n cp : Nat) (X : Nat → Int × Int), v = .slice ao n cp ∧ IFr W ao n X ∧ (∀ k, k < n → FrI (X k)) ∧ n ≤ 9223372036854775807 := by
  obtain ⟨ao, len, cp, rfl⟩ := okWide_slice Try.underlying35 hval
  obtain ⟨fuel, hx⟩ := h
  rcases open_slice_pairs Try.underlying35 Try.underlying45 (by kernel_rfl) rfl rfl (by kernel_rfl) (by kernel_rfl) hx with ⟨hc, _⟩ | ⟨a, len2, cap2, m, k, V0, V1, D0, D1, P0, P1, hc, _, hl, hm, hmm, _, hall⟩
  · simp [Value.cells] at hc
    obtain ⟨rfl, rfl, rfl⟩ := hc
    exact ⟨none, 0, 0, fun _ => (0, 1), rfl, fun h => by omega, fun k h => by omega, by omega⟩
  · simp [Value.cells] at hc
    obtain ⟨rfl, rfl, rfl⟩ := hc
    simp only [if_true] at hmm
    subst hmm
    have each : ∀ i, i < m → ∃ q : Int × Int, V0 i = .int .i64 q.1 ∧ V1 i = .int .i64 q.2 ∧ FrI q := fun i hi => by
      obtain ⟨x, h1, _, w1⟩ := DataW.trod_int Try.underlying3 (hall i hi).2.2.1
      obtain ⟨y, h2, _, w2⟩ := DataW.trod_int Try.underlying3 (hall i hi).2.2.2
      simp only [List.cons.injEq, and_true] at h1 h2
      exact ⟨(x, y), h1, h2, ⟨(i64_bd w1).1, (i64_bd w1).2, (i64_bd w2).1, (i64_bd w2).2⟩⟩
    obtain ⟨q, hq⟩ := choose_lt each
    refine ⟨some a, len, m, q, rfl, fun hn => ?_, fun k hk => (hq k (by omega)).2.2, by unfold maxLen at hm; omega⟩
    obtain ⟨sb, so, spot⟩ := a
    have hspot : spot = none := by simpa [Addr.add] using World.cell?_spot (hall 0 (by omega)).1
    subst hspot
    have c0 := (hall 0 (by omega)).1
    refine ⟨sb, so, rfl, Lib.lt_of_cell (by simpa [Addr.add] using c0), fun k hk => ?_⟩
    have h1 := (hall k (by omega)).1
    have h2 := (hall k (by omega)).2.1
    obtain ⟨e1, e2, _⟩ := hq k (by omega)
    rw [e1] at h1
    rw [e2] at h2
    exact ⟨by simpa [Addr.add_lit] using h1, by simpa [Addr.add_lit, Nat.add_assoc] using h2⟩

set_option maxRecDepth 100000 in
theorem open_mat {H : Type} {enc : TypeId × Value → H} {W : World} {base : Nat} {v : Value} {d : DataW H} {p : List MemPlace} (hval : Value.okWide Try.prog W .any base 23 v) (h : DataW.Trod enc Try.prog W 0 (fun _ => true) true 23 v d p) :
    ∃ (ma : Option Addr) (R mc : Nat) (Ra : Nat → Option Addr) (Ln Ka : Nat → Nat) (Z : Nat → Nat → Int), v = .slice ma R mc ∧ AMat W ma R Ra Ln Ka Z ∧ R ≤ 9223372036854775807 := by
  obtain ⟨ao, len, cp, rfl⟩ := okWide_slice Try.underlying23 hval
  obtain ⟨fuel, hx⟩ := h
  rcases open_int_rows Try.underlying23 Try.underlying29 Try.underlying3 (by kernel_rfl) (by kernel_rfl) hx with ⟨hc, _⟩ | ⟨a, len2, cap2, A, L, C, Z, hc, _, hl, hm, _, hall⟩
  · simp [Value.cells] at hc
    obtain ⟨rfl, rfl, rfl⟩ := hc
    exact ⟨none, 0, 0, fun _ => none, fun _ => 0, fun _ => 0, fun _ _ => 0, rfl, ⟨fun h => by omega, fun i h => by omega, fun i h => by omega⟩, by omega⟩
  · simp [Value.cells] at hc
    obtain ⟨rfl, rfl, rfl⟩ := hc
    refine ⟨some a, len, cp, A, L, C, fun i j => (Z i).getD j 0, rfl, ⟨fun hR => ?_, fun i hi hn => ?_, fun i hi => ?_⟩, by unfold maxLen at hm; omega⟩
    · obtain ⟨sb, so, spot⟩ := a
      have hspot : spot = none := by simpa [Addr.add] using World.cell?_spot (hall 0 (by omega)).1
      subst hspot
      have c0 := (hall 0 (by omega)).1
      refine ⟨sb, so, rfl, Lib.lt_of_cell (by simpa [Addr.add] using c0), fun i hi => ?_⟩
      have h1 := (hall i (by omega)).1
      simpa [Addr.add_lit] using h1
    · obtain ⟨_, h2, h3, h4, _, h6, h7⟩ := hall i (by omega)
      rcases hA : A i with _ | a'
      · have := h6 hA; omega
      · obtain ⟨sb, so, spot⟩ := a'
        have hc := (h7 _ hA).2
        have hspot : spot = none := by simpa [Addr.add] using World.cell?_spot (hc 0 (by omega))
        subst hspot
        have c0 := hc 0 (by omega)
        refine ⟨sb, so, rfl, Lib.lt_of_cell (by simpa [Addr.add] using c0), fun j hj => ?_⟩
        have h1 := hc j (by omega)
        simpa [Addr.add_lit] using h1
    · have := (hall i (by omega)).2
      unfold maxLen at this
      omega

end Go.Proofs.Ytjggnmbdgagkoaa
