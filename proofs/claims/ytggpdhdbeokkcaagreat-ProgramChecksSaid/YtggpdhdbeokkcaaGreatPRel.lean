/- Layer 5: the lacks are taken out of the basis. -/
import Derived.Test.YtggpdhdbeokkcaaGreatPLow
namespace Go.Proofs.YtggpdhdbeokkcaaGreat
set_option linter.unusedVariables false
open Go.RowKit Go.Shelf

/-- The row while its signs are turned. -/
def trnF (f : Nat → Int) (k : Nat) : Nat → Int := fun j => if j < k then - f j else f j
theorem NRow.set {lo n : Nat} {W : World} {g cp : Nat} {f : Nat → Int} (h : NRow lo n W g cp f) (j0 : Nat) (hj0 : j0 < n) (v : Int) : NRow lo n (W.setCell ⟨g, j0, none⟩ (.int .i64 v)) g cp (setF f j0 v) :=
 ⟨h.lo, by simpa using h.hb, h.cap, fun j hj => by
  unfold setF
  by_cases e : j = j0
  ·subst e
   rw [if_pos rfl]
   exact World.cell?_setCell_same' _ _ _ (by rw [h.cell j hj]; rfl)
  ·rw [if_neg e, World.cell?_setCell_other _ _ _ _ (adr_ne (b := g) (i := j0) (j := j) (fun q => e q.symm))]
   exact h.cell j hj, fun j hj => by simpa using h.fz j hj⟩
theorem NRow.congr {lo n : Nat} {W : World} {g cp : Nat} {f f2 : Nat → Int} (h : NRow lo n W g cp f) (e : ∀ j, j < n → f2 j = f j) : NRow lo n W g cp f2 :=
 ⟨h.lo, h.hb, h.cap, fun j hj => by rw [e j hj]; exact h.cell j hj, h.fz⟩

set_option maxRecDepth 100000 in
set_option maxHeartbeats 4000000 in
theorem turn_any (lo N g cp : Nat) (f : Nat → Int) (w : World) (h : NRow lo N w g cp f) (hN : N ≤ 1000) (hf : ∀ j, j < N → -4611686018427387904 ≤ f j ∧ f j ≤ 4611686018427387904) :
  Calls Tryz.prog 85 #[.slice (some ⟨g, 0, none⟩) N cp] w fun e w' => e = .returned (.tuple #[]) ∧ NRow lo N w' g cp (fun j => - f j) ∧ Only (fun q => q = g) w w' := by
 have HF := Lib.hid hf
 have S0 : Hid (NRow lo N w g cp (trnF f 0) ∧ Only (fun q => q = g) w w) := ⟨h.congr fun j hj => if_neg (by omega), Only.refl _ _⟩
 clear h hf
 go_enter Tryz.func85, Tryz.ntmps85
 go_wp2_with fail
 go_loopg [6] N (fun q s6 wx => ∃ j : Nat, s6 = .int .i64 j ∧ q = N - j ∧ j ≤ N ∧ Hid (NRow lo N wx g cp (trnF f j) ∧ Only (fun q => q = g) w wx))
 case atStart => exact ⟨0, rfl, rfl, Nat.zero_le _, S0⟩
 case round =>
  clear S0
  obtain ⟨j, rfl, rfl, hj, S⟩ := hrel
  rename World => W2
  by_cases hlt : j < N
  ·have wk : IntKind.i64.wrap ((j : Int) + 1) = ((j + 1 : Nat) : Int) := by rw [IntWalk.i64_in _ (by omega)]; omega
   have hfj := HF.out j hlt
   have p1 := S.out.1.cell j hlt
   rw [show trnF f j j = f j from if_neg (by omega)] at p1
   have p2 := S.out.1.fz j hlt
   have T := Lib.hid (And.intro ((S.out.1.set j hlt (- f j)).congr (f2 := trnF f (j + 1)) (fun k hk => by
    unfold setF trnF
    by_cases e : k = j
    ·subst e; rw [if_pos (by omega), if_pos rfl]
    ·rw [if_neg e]
     by_cases e2 : k < j
     ·rw [if_pos e2, if_pos (by omega)]
     ·rw [if_neg e2, if_neg (by omega)])) (S.out.2.setCell ⟨g, j, none⟩ rfl (.int .i64 (- f j))))
   generalize f j = x at *
   have wx : IntKind.i64.wrap (-x) = -x := IntWalk.i64_in _ (by omega)
   clear S hfj
   go_wp2_with fail
   go_roundg (N - (j + 1))
   case measure => omega
   case rel => exact ⟨j + 1, rfl, rfl, by omega, T⟩
  ·have e : j = N := by omega
   subst e
   go_wp2_with fail
   go_end0
   exact ⟨rfl, S.out.1.congr fun k hk => (if_pos hk).symm, S.out.2⟩

section
variable {B0 : Nat} {tb rb Cb bb sb m n : Nat} {pa pb : Option Addr} {pc pd : Nat} {G C : Nat → Nat} {A : Nat → Nat → Int} {f σ c0 c1 : Nat → Int} {sg : Nat → Int}

theorem TSt.row {W W2 : World} {wd : Nat} {E : Nat → Nat → Int} {β : Nat → Int} {D : Int} {lo : Nat} {f2 : Nat → Int} (h : TSt B0 W tb rb Cb bb sb m n wd pa pb pc pd G C E β sg D) (i : Nat) (hi : i < m + 2) (hr : NRow lo wd W2 (G i) (C i) f2) (ho : Only (fun q => q = G i) W W2) :
  TSt B0 W2 tb rb Cb bb sb m n wd pa pb pc pd G C (fun a c => if a = i then f2 c else E a c) β sg D :=
 ⟨h.t.only ho (fun e => h.n2 i hi e.symm), ⟨h.g.lb, Nat.lt_of_lt_of_le h.g.hb ho.size, fun a ha => (ho.cell (p := ⟨rb, a, none⟩) h.g.hb (fun e => (h.g.row i hi).2.2 e.symm)).trans (h.g.top a ha), fun a ha => (ho.frozen (p := ⟨rb, a, none⟩) h.g.hb (fun e => (h.g.row i hi).2.2 e.symm)).trans (h.g.tfz a ha),
  fun a ha => ⟨(h.g.row a ha).1, Nat.lt_of_lt_of_le (h.g.row a ha).2.1 ho.size, (h.g.row a ha).2.2⟩, h.g.cap, h.g.inj, fun a c ha hc => by
   by_cases e : a = i
   ·subst e; rw [if_pos rfl]; exact hr.cell c hc
   ·rw [if_neg e]; exact (ho.cell (p := ⟨G a, c, none⟩) (h.g.row a ha).2.1 (fun q => e (h.g.inj a i ha hi q))).trans (h.g.cell a c ha hc), fun a c ha hc => by
   by_cases e : a = i
   ·subst e; exact hr.fz c hc
   ·exact (ho.frozen (p := ⟨G a, c, none⟩) (h.g.row a ha).2.1 (fun q => e (h.g.inj a i ha hi q))).trans (h.g.fz a c ha hc)⟩,
  h.ba.only ho (fun k e => (h.n3 k).2.2.2 i hi e.symm), h.si.only ho (fun k e => (h.n4 k).2.2 i hi e.symm), h.le, h.n1, h.n2, h.n3, h.n4, h.cb⟩

/-- The lacks in the basis are zero; those of the rows before k stand in rows that are zero. -/
structure RelI (m n : Nat) (A : Nat → Nat → Int) (k : Nat) (b : Nat → Nat) : Prop where
 good : GoodP m A (n + m + m + 1) (n + m + m) b
 zero : ∀ i, i < m → n + m ≤ b i → ttP m A b i (n + m + m) = 0
 done : ∀ i, i < k → i < m → n + m ≤ b i → ∀ j, j < n + m → ttP m A b i j = 0
 lt2 : ∀ l, l < m → b l < n + m + m
theorem RelI.skip {k : Nat} {b : Nat → Nat} (h : RelI m n A k b) (hk : n + m ≤ b k → ∀ j, j < n + m → ttP m A b k j = 0) : RelI m n A (k + 1) b :=
 ⟨h.good, h.zero, fun i hi him hb => by
  by_cases e : i = k
  ·subst e; exact hk hb
  ·exact h.done i (by omega) him hb, h.lt2⟩
theorem RelI.pivot {k : Nat} {b : Nat → Nat} (h : RelI m n A k b) (hk : k < m) (hb : n + m ≤ b k) (s : Nat) (hs : s < n + m) (e : Int) (he : e = 1 ∨ e = -1) (P : PivP m A b k s e) (hp : 0 < e * ttP m A b k s) : RelI m n A (k + 1) (updP b k s) := by
 have hd := ddP_pos h.good.nz
 have z0 := h.zero k hk hb
 have other : ∀ i, i < m → i ≠ k → ddP m A b * ttP m A (updP b k s) i (n + m + m) = (e * ttP m A b k s) * ttP m A b i (n + m + m) := fun i hi hn => by
  rw [P.oth i _ hi hn, z0]; grind
 have ub : ∀ i, i ≠ k → updP b k s i = b i := fun i hn => if_neg hn
 have uk : updP b k s k = s := if_pos rfl
 refine ⟨⟨P.nz, updP_lt h.good.lt (by omega), fun i hi => ?_, fun l hl => by rw [ub l (by omega)]; exact h.good.can l hl⟩, fun i hi hbi => ?_, fun i hi him hbi j hj => ?_, updP_lt h.lt2 (by omega)⟩
 ·by_cases g : i = k
  ·subst g; rw [P.own, z0, Int.mul_zero]; exact Int.le_refl _
  ·refine nonneg_of hd ?_
   rw [other i hi g]
   exact Int.mul_nonneg (Int.le_of_lt hp) (h.good.feas i hi)
 ·by_cases g : i = k
  ·subst g; rw [uk] at hbi; omega
  ·rw [ub i g] at hbi
   have q := other i hi g
   rw [h.zero i hi hbi, Int.mul_zero] at q
   rcases Int.mul_eq_zero.1 q with q | q
   ·omega
   ·exact q
 ·by_cases g : i = k
  ·subst g; rw [uk] at hbi; omega
  ·rw [ub i g] at hbi
   have q := P.oth i j him g
   have d := h.done i (by omega) him hbi
   rw [d j hj, d s hs] at q
   have q2 : ddP m A b * ttP m A (updP b k s) i j = 0 := by rw [q]; grind
   rcases Int.mul_eq_zero.1 q2 with q | q
   ·omega
   ·exact q

/-- A step at the row r and the column s, in memory; the row's sign may have been turned ahead of it. -/
theorem pivot_sim (hp : Prob n m A f σ c0 c1) {b : Nat → Nat} {r s : Nat} {e : Int} (hg : GoodP m A (n + m + m + 1) (n + m + m) b) (hg2 : GoodP m A (n + m + m + 1) (n + m + m) (updP b r s)) (hr : r < m) (hs : s < n + m) (he : e = 1 ∨ e = -1) (P : PivP m A b r s e) {E : Nat → Nat → Int}
  (hE : ∀ i j, E i j = if i = r then e * tabE m A c0 c1 b r j else tabE m A c0 c1 b i j) (w : World) (hB0 : B0 ≤ w.heap.size) (hS : TSt B0 w tb rb Cb bb sb m n (n + m + m + 1) pa pb pc pd G C E (fun i => (b i : Int)) sg (ddP m A b)) :
  Calls Tryz.prog 90 #[.pointer (some ⟨tb, 0, none⟩), .int .i64 (r : Nat), .int .i64 (s : Nat)] w fun e w' => e = .returned (.tuple #[]) ∧ Below B0 w w' ∧ SimSt B0 w' tb rb Cb bb sb m n pa pb pc pd G C A c0 c1 sg (updP b r s) := by
 have hu := hp.under hg
 have hn := hp.hn
 have hm := hp.hm
 have er : ∀ j, E r j = e * tabE m A c0 c1 b r j := fun j => by rw [hE, if_pos rfl]
 have eo : ∀ i j, i ≠ r → E i j = tabE m A c0 c1 b i j := fun i j h => by rw [hE, if_neg h]
 have own : ∀ j, tabE m A c0 c1 (updP b r s) r j = E r j := fun j => by rw [er]; unfold tabE; rw [if_pos hr, if_pos hr, P.own]
 refine (pivot_any B0 tb rb Cb bb sb m n (n + m + m + 1) pa pb pc pd G C E (tabE m A c0 c1 (updP b r s)) (fun i => (b i : Int)) sg (ddP m A b) r s w hB0 hS hr (by omega) (by omega) (by omega) hu.1 (by omega) (fun i j hi hj => ?_) (fun i j hi hj => ?_) own (fun i j hi hj hn2 => ?_)).mono ?_
 ·by_cases g : i = r
  ·subst g
   have := hp.small hg i j hj
   rw [er]
   rcases he with rfl | rfl <;> omega
  ·rw [eo i j g]
   have := hp.small hg i j hj
   omega
 ·have := hp.small hg2 i j hj
  omega
 ·rw [er, er, eo i j hn2, eo i s hn2]
  exact tab_step P hr i j hn2
 ·rintro e2 w' ⟨rfl, h1, h2⟩
  refine ⟨rfl, h1, ?_⟩
  rw [setF_upd, er] at h2
  have hd : e * tabE m A c0 c1 b r s = ddP m A (updP b r s) := by rw [P.dd]; unfold tabE; rw [if_pos hr]
  rw [hd] at h2
  exact h2

set_option maxRecDepth 100000 in
set_option maxHeartbeats 16000000 in
theorem release_any (hp : Prob n m A f σ c0 c1) (b : Nat → Nat) (hg : RelI m n A 0 b) (w : World) (hB0 : B0 ≤ w.heap.size) (hS : SimSt B0 w tb rb Cb bb sb m n pa pb pc pd G C A c0 c1 sg b) :
  Calls Tryz.prog 49 #[.pointer (some ⟨tb, 0, none⟩)] w fun e w' => e = .returned (.tuple #[]) ∧ Below B0 w w' ∧
   ∃ b2, SimSt B0 w' tb rb Cb bb sb m n pa pb pc pd G C A c0 c1 sg b2 ∧ RelI m n A m b2 := by
 have hm6 := hp.hm
 have hn12 := hp.hn.2
 have hn1 := hp.hn.1
 have HP := Lib.hid hp
 have HB0 := Lib.hid hB0
 have eg : ∀ args w, (callFunc 89 args).run Tryz.prog w = .ok (.enter 89 args) w := enters_of Tryz.func89 (by kernel_rfl) rfl
 have CI := fun q W (f : Nat → Int) h => Lib.hid (index_any 89 (fun z => z != 0) nonzero_pred eg (G q) (n + m) (C q) f W h (by omega))
 have HCI := Lib.hid CI
 have q0 := hS.t.c0
 have q1 := hS.t.c1
 have hcb := hS.cb
 have l1 : (m : Int) ≤ ((Cb : Nat) : Int) := by omega
 have l2 : ¬ (m : Int) < 0 := by omega
 have HS0 := Lib.hid hS
 have HG0 := Lib.hid hg
 clear hp hB0 hS hg eg CI
 go_enter Tryz.func49, Tryz.ntmps49
 go_upto_region 0 with fail
 go_quiet (fail)
 have hbx : Below w.heap.size w (w.drewN nq) := below_drewN' (Below.refl _ _) nq
 generalize w.drewN nq = w0 at *
 clear nq
 have S0 : Hid (Below B0 w w0 ∧ SimSt B0 w0 tb rb Cb bb sb m n pa pb pc pd G C A c0 c1 sg b ∧ RelI m n A 0 b) := ⟨hbx.mono HB0.out, TSt.on HS0.out hbx, HG0.out⟩
 clear q0 q1 hbx HS0 HG0
 go_wp2_with fail
 go_loopg [16] m (fun g s16 wx => ∃ i : Nat, s16 = .int .i64 i ∧ g = m - i ∧ i ≤ m ∧ ∃ b, Hid (Below B0 w wx ∧ SimSt B0 wx tb rb Cb bb sb m n pa pb pc pd G C A c0 c1 sg b ∧ RelI m n A i b))
 case atStart => exact ⟨0, rfl, rfl, Nat.zero_le _, b, S0⟩
 case round =>
  clear S0
  obtain ⟨i, rfl, rfl, hi, b, S⟩ := hrel
  rename World => W1
  by_cases hlt : i < m
  ·have wk : IntKind.i64.wrap ((i : Int) + 1) = ((i + 1 : Nat) : Int) := by rw [IntWalk.i64_in _ (by omega)]; omega
   have p1 := S.out.2.1.g.top i (by omega)
   have hCi : n + m + m + 1 ≤ C i := S.out.2.1.g.cap i (by omega)
   have l3 : (i : Int) < (m : Int) := by omega
   go_upto_region 3 with fail
   clear p1
   have q1 := S.out.2.1.t.c1
   rw [S.out.2.1.ba.ad (by omega)] at q1
   have q2 := S.out.2.1.ba.cell i hlt
   have CF := fun k => Lib.hid (firstLack_any (W1.drewN k) (TSt.on S.out.2.1 (below_drewN' (Below.refl _ _) k)) (by omega) (by omega))
   by_cases hb : b i < n + m
   ·have d1 : decide (((b i : Nat) : Int) < ((n + m : Nat) : Int)) = true := decide_eq_true (by omega)
    have d2 : ((b i : Nat) : Int) < (n : Int) + (m : Int) := by omega
    go_quiet ((go_at_call 87; (with_reducible exact Calls.quiet_of ((CF _).out))))
    have T : Hid (Below B0 w (W1.drewN nq) ∧ SimSt B0 (W1.drewN nq) tb rb Cb bb sb m n pa pb pc pd G C A c0 c1 sg b ∧ RelI m n A (i + 1) b) := ⟨below_drewN' S.out.1 _, TSt.on S.out.2.1 (below_drewN' (Below.refl _ _) _), S.out.2.2.skip (fun h => by omega)⟩
    clear S q1 q2 CF
    go_wp2_with fail
    go_roundg (m - (i + 1))
    case measure => omega
    case rel => exact ⟨i + 1, rfl, rfl, by omega, _, T⟩
   ·have d1 : decide (((b i : Nat) : Int) < ((n + m : Nat) : Int)) = false := decide_eq_false (by omega)
    have d2 : ¬ ((b i : Nat) : Int) < (n : Int) + (m : Int) := by omega
    have HBI := Lib.hid hb
    clear hb
    go_quiet ((go_at_call 87; (with_reducible exact Calls.quiet_of ((CF _).out))))
    clear d1 d2 q1 q2 CF
    have T : Hid (Below B0 w (W1.drewN nq) ∧ SimSt B0 (W1.drewN nq) tb rb Cb bb sb m n pa pb pc pd G C A c0 c1 sg b ∧ RelI m n A i b) := ⟨below_drewN' S.out.1 _, TSt.on S.out.2.1 (below_drewN' (Below.refl _ _) _), S.out.2.2⟩
    clear S
    generalize W1.drewN nq = W2 at *
    have CF := Lib.hid (firstLack_any W2 T.out.2.1 (by omega) (by omega))
    have l4 : ((n + m : Nat) : Int) ≤ ((C i : Nat) : Int) := by omega
    have l5 : ¬ ((n + m : Nat) : Int) < 0 := by omega
    go_wp2_with (first | (go_at_call 87; (with_reducible refine ((CF.out).mono ?_)); rintro e w2 ⟨rfl, kk, rfl⟩))
    have hbx : Below W2.heap.size W2 (W2.drewN kk) := below_drewN' (Below.refl _ _) kk
    generalize W2.drewN kk = W3 at *
    have S3 : Hid (Below B0 w W3 ∧ SimSt B0 W3 tb rb Cb bb sb m n pa pb pc pd G C A c0 c1 sg b ∧ RelI m n A i b) := ⟨below_on2 T.out.1 HB0.out hbx, TSt.on T.out.2.1 hbx, T.out.2.2⟩
    clear T hbx CF
    have e1 : ∀ j, tabE m A c0 c1 b i j = ttP m A b i j := fun j => if_pos hlt
    have HE1 := Lib.hid e1
    clear e1
    have CX := HCI.out i W3 (ttP m A b i) (fun j hj => by rw [← HE1.out]; exact S3.out.2.1.g.cell i j (by omega) (by omega))
    (with_reducible refine ((CX.out).mono ?_))
    rintro e w3 ⟨⟨k3, hw3⟩, hcase⟩
    have hbx : Below W3.heap.size W3 w3 := by rw [hw3]; exact below_drewN' (Below.refl _ _) k3
    have S4 : Hid (Below B0 w w3 ∧ SimSt B0 w3 tb rb Cb bb sb m n pa pb pc pd G C A c0 c1 sg b ∧ RelI m n A i b) := ⟨below_on2 S3.out.1 HB0.out hbx, TSt.on S3.out.2.1 hbx, S3.out.2.2⟩
    clear S3 hbx hw3 CX
    rcases hcase with ⟨rfl, hall⟩ | ⟨s, hs, rfl, hs1, _⟩
    ·have T : Hid (Below B0 w w3 ∧ SimSt B0 w3 tb rb Cb bb sb m n pa pb pc pd G C A c0 c1 sg b ∧ RelI m n A (i + 1) b) := ⟨S4.out.1, S4.out.2.1, S4.out.2.2.skip fun _ j hj => by have := hall j hj; simpa using this⟩
     clear S4 hall
     go_wp2_with fail
     go_roundg (m - (i + 1))
     case measure => omega
     case rel => exact ⟨i + 1, rfl, rfl, by omega, _, T⟩
    ·have hne : ttP m A b i s ≠ 0 := by simpa using hs1
     clear hs1
     have p1 := S4.out.2.1.g.cell i s (by omega) (by omega)
     rw [HE1.out] at p1
     have l6 : (s : Int) < ((n + m + m + 1 : Nat) : Int) := by omega
     have l7 : (s : Int) < (n : Int) + (m : Int) + (m : Int) + 1 := by omega
     have l8 : ¬ (s : Int) < 0 := by omega
     have HSN := Lib.hid hs
     by_cases hpos : ttP m A b i s < 0
     ·have P := piv (e := -1) (m := m) (A := A) (b := b) (r := i) (s := s) hlt (.inr rfl) (by omega)
      have R2 := Lib.hid (S4.out.2.2.pivot hlt (by have := HBI.out; omega) s hs (-1) (.inr rfl) P (by omega))
      have sm := fun j (hj : j < n + m + m + 1) => HP.out.small S4.out.2.2.good i j hj
      have rw1 : NRow B0 (n + m + m + 1) w3 (G i) (C i) (tabE m A c0 c1 b i) := ⟨(S4.out.2.1.g.row i (by omega)).1, (S4.out.2.1.g.row i (by omega)).2.1, hCi, fun j hj => S4.out.2.1.g.cell i j (by omega) hj, fun j hj => S4.out.2.1.g.fz i j (by omega) hj⟩
      have CT := Lib.hid (turn_any B0 (n + m + m + 1) (G i) (C i) (tabE m A c0 c1 b i) w3 rw1 (by omega) (fun j hj => by have := sm j hj; omega))
      have HPP := Lib.hid P
      have d3 : decide (ttP m A b i s < 0) = true := decide_eq_true hpos
      generalize ttP m A b i s = x at *
      clear rw1 sm P
      go_wp2_with (first | (go_at_call 85; (with_reducible refine ((CT.out).mono ?_)); rintro e w4 ⟨rfl, hN4, hO4⟩))
      have T4 := S4.out.2.1.row i (by omega) hN4 hO4
      have B4 : Below B0 w w4 := S4.out.1.trans (hO4.below (Nat.le_trans HB0.out S4.out.1.size) (fun q hq => by rw [hq]; exact (S4.out.2.1.g.row i (by omega)).1))
      have HB4 := Lib.hid B4
      have CQ := Lib.hid (pivot_sim HP.out S4.out.2.2.good R2.out.good hlt HSN.out (.inr rfl) HPP.out (fun a c => by
       by_cases g : a = i
       ·rw [if_pos g, if_pos g]
        show - tabE m A c0 c1 b i c = -1 * tabE m A c0 c1 b i c
        omega
       ·rw [if_neg g, if_neg g]) w4 (Nat.le_trans HB0.out B4.size) T4)
      clear CT hN4 hO4 T4 B4 S4
      (with_reducible refine ((CQ.out).mono ?_))
      rintro e w5 ⟨rfl, hb5, h5⟩
      have T : Hid (Below B0 w w5 ∧ SimSt B0 w5 tb rb Cb bb sb m n pa pb pc pd G C A c0 c1 sg (updP b i s) ∧ RelI m n A (i + 1) (updP b i s)) := ⟨HB4.out.trans hb5, h5, R2.out⟩
      clear CQ hb5 h5 HB4 R2
      go_wp2_with fail
      go_roundg (m - (i + 1))
      case measure => omega
      case rel => exact ⟨i + 1, rfl, rfl, by omega, _, T⟩
     ·have P := piv (e := 1) (m := m) (A := A) (b := b) (r := i) (s := s) hlt (.inl rfl) (by omega)
      have R2 := Lib.hid (S4.out.2.2.pivot hlt (by have := HBI.out; omega) s hs 1 (.inl rfl) P (by omega))
      have CP := fun W h hB => Lib.hid (pivot_sim (B0 := B0) (tb := tb) (rb := rb) (Cb := Cb) (bb := bb) (sb := sb) (pa := pa) (pb := pb) (pc := pc) (pd := pd) (G := G) (C := C) (sg := sg) HP.out S4.out.2.2.good R2.out.good hlt hs (.inl rfl) P (fun a c => by
       by_cases g : a = i
       ·subst g; rw [if_pos rfl, Int.one_mul]
       ·rw [if_neg g]) W hB h)
      have CQ := CP w3 S4.out.2.1 (Nat.le_trans HB0.out S4.out.1.size)
      have d3 : decide (ttP m A b i s < 0) = false := decide_eq_false hpos
      have HB4 := Lib.hid S4.out.1
      generalize ttP m A b i s = x at *
      clear P CP S4
      go_wp2_with fail
      (with_reducible refine ((CQ.out).mono ?_))
      rintro e w5 ⟨rfl, hb5, h5⟩
      have T : Hid (Below B0 w w5 ∧ SimSt B0 w5 tb rb Cb bb sb m n pa pb pc pd G C A c0 c1 sg (updP b i s) ∧ RelI m n A (i + 1) (updP b i s)) := ⟨HB4.out.trans hb5, h5, R2.out⟩
      clear CQ hb5 h5 HB4 R2
      go_wp2_with fail
      go_roundg (m - (i + 1))
      case measure => omega
      case rel => exact ⟨i + 1, rfl, rfl, by omega, _, T⟩
  ·have e : i = m := by omega
   subst e
   go_wp2_with fail
   go_end0
   exact ⟨rfl, S.out.1, b, S.out.2.1, S.out.2.2⟩
end
end Go.Proofs.YtggpdhdbeokkcaaGreat
