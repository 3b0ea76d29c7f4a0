/- Layer 5: a run of the simplex method over a table in memory. -/
import Derived.Test.YtggpdhdbeokkcaaGreatPLev
namespace Go.Proofs.YtggpdhdbeokkcaaGreat
set_option linter.unusedVariables false
open Go.RowKit Go.Shelf

theorem bestI_spec (E : Nat → Nat → Int) (b : Nat → Nat) (R s : Nat) : ∀ k, (bestI E (fun i => (b i : Int)) R s k = -1 ∧ ∀ i, i < k → E i s ≤ 0) ∨ ∃ r, bestI E (fun i => (b i : Int)) R s k = (r : Nat) ∧ r < k ∧ 0 < E r s ∧ ∀ i, i < k → 0 < E i s → E r R * E i s < E i R * E r s ∨ (E r R * E i s = E i R * E r s ∧ b r ≤ b i) := by
 intro k
 induction k with
 | zero => exact .inl ⟨rfl, fun i h => by omega⟩
 | succ k ih =>
  unfold bestI
  rcases ih with ⟨h1, h2⟩ | ⟨r, h1, h2, h3, h4⟩
  ·rw [h1]
   by_cases hk : 0 < E k s
   ·rw [if_pos ⟨hk, .inl (by omega)⟩]
    refine .inr ⟨k, rfl, by omega, hk, fun i hi h => ?_⟩
    by_cases e : i = k
    ·subst e; exact .inr ⟨rfl, Nat.le_refl _⟩
    ·have := h2 i (by omega); omega
   ·rw [if_neg fun h => hk h.1]
    refine .inl ⟨rfl, fun i hi => ?_⟩
    by_cases e : i = k
    ·subst e; omega
    ·exact h2 i (by omega)
  ·rw [h1, show ((r : Nat) : Int).toNat = r from rfl]
   by_cases hk : 0 < E k s
   ·by_cases hb : befB E (fun i => (b i : Int)) R k r s = true
    ·rw [if_pos ⟨hk, .inr hb⟩]
     unfold befB at hb
     have hb : E k R * E r s - E r R * E k s < 0 ∨ (E k R * E r s - E r R * E k s = 0 ∧ (b k : Int) < b r) := of_decide_eq_true hb
     refine .inr ⟨k, rfl, by omega, hk, fun i hi h => ?_⟩
     by_cases e : i = k
     ·subst e; exact .inr ⟨rfl, Nat.le_refl _⟩
     ·have hi4 := h4 i (by omega) h
      have l1 : E k R * E r s ≤ E r R * E k s := by omega
      have l2 : E r R * E i s ≤ E i R * E r s := by omega
      have l3 := frac_trans h3 hk h l1 l2
      rcases Int.lt_or_eq_of_le l3 with g | g
      ·exact .inl g
      ·refine .inr ⟨g, ?_⟩
       have l4 := frac_trans h h3 hk l2 (show E i R * E k s ≤ E k R * E i s by omega)
       have l5 := frac_trans (a := E i R) (b := E i s) (c := E k R) (e := E k s) (f := E r s) (g := E r R) hk h h3 (by omega) l1
       omega
    ·rw [if_neg]
     ·refine .inr ⟨r, rfl, by omega, h3, fun i hi h => ?_⟩
      by_cases e : i = k
      ·subst e
       unfold befB at hb
       have hb2 : ¬ (E i R * E r s - E r R * E i s < 0 ∨ (E i R * E r s - E r R * E i s = 0 ∧ ((b i : Nat) : Int) < (b r : Int))) := fun q => hb (decide_eq_true q)
       rcases Int.lt_trichotomy (E r R * E i s) (E i R * E r s) with g | g | g
       ·exact .inl g
       ·exact .inr ⟨g, by omega⟩
       ·exact absurd (.inl (by omega)) hb2
      ·exact h4 i (by omega) h
     ·rintro ⟨_, q | q⟩
      ·omega
      ·exact hb q
   ·rw [if_neg fun h => hk h.1]
    refine .inr ⟨r, rfl, by omega, h3, fun i hi h => ?_⟩
    by_cases e : i = k
    ·subst e; exact absurd h hk
    ·exact h4 i (by omega) h

/-- The numbers of the table with the basis b: its rows, the costs, the lacks. -/
def tabE (m : Nat) (A : Nat → Nat → Int) (c0 c1 : Nat → Int) (b : Nat → Nat) : Nat → Nat → Int := fun i j => if i < m then ttP m A b i j else if i = m then zzP m A c0 b j else zzP m A c1 b j

structure Prob (n m : Nat) (A : Nat → Nat → Int) (f σ c0 c1 : Nat → Int) : Prop where
 lp : LpA n m A f σ
 pb : prodN m f ≤ 1152921504606846976
 b0 : (sumN (n + m + m + 1) fun j => ((c0 j).natAbs : Int)) * prodN m f ≤ 1152921504606846976
 b1 : (sumN (n + m + m + 1) fun j => ((c1 j).natAbs : Int)) * prodN m f ≤ 1152921504606846976
 hn : 1 ≤ n ∧ n ≤ 12
 hm : m ≤ 6
theorem Prob.small {n m : Nat} {A : Nat → Nat → Int} {f σ c0 c1 : Nat → Int} (h : Prob n m A f σ c0 c1) {R : Nat} {b : Nat → Nat} (g : GoodP m A (n + m + m + 1) R b) (i j : Nat) (hj : j < n + m + m + 1) : -1152921504606846976 ≤ tabE m A c0 c1 b i j ∧ tabE m A c0 c1 b i j ≤ 1152921504606846976 := by
 unfold tabE
 split
 ·have := h.lp.tt g.lt i hj; have := h.pb; omega
 ·split
  ·have := h.lp.zz g.lt g.nz c0 hj; have := h.b0; omega
  ·have := h.lp.zz g.lt g.nz c1 hj; have := h.b1; omega
theorem Prob.under {n m : Nat} {A : Nat → Nat → Int} {f σ c0 c1 : Nat → Int} (h : Prob n m A f σ c0 c1) {R : Nat} {b : Nat → Nat} (g : GoodP m A (n + m + m + 1) R b) : 0 < ddP m A b ∧ ddP m A b ≤ 1152921504606846976 :=
 ⟨ddP_pos g.nz, Int.le_trans (h.lp.dd g.lt) h.pb⟩
theorem tab_step {m : Nat} {A : Nat → Nat → Int} {c0 c1 : Nat → Int} {b : Nat → Nat} {r s : Nat} {e : Int} (P : PivP m A b r s e) (hr : r < m) (i j : Nat) (hn : i ≠ r) :
  tabE m A c0 c1 (updP b r s) i j * ddP m A b = (e * tabE m A c0 c1 b r s) * tabE m A c0 c1 b i j - tabE m A c0 c1 b i s * (e * tabE m A c0 c1 b r j) := by
 unfold tabE
 rw [if_pos hr, if_pos hr]
 by_cases h1 : i < m
 ·rw [if_pos h1, if_pos h1, if_pos h1]
  have := P.oth i j h1 hn
  rw [Int.mul_comm, this]; grind
 ·rw [if_neg h1, if_neg h1, if_neg h1]
  split
  ·have := P.zz c0 j
   rw [Int.mul_comm, this]; grind
  ·have := P.zz c1 j
   rw [Int.mul_comm, this]; grind
theorem setF_upd (b : Nat → Nat) (r s : Nat) : setF (fun i => (b i : Int)) r (s : Nat) = fun i => (updP b r s i : Int) := by
 funext i; unfold setF updP; split <;> rfl

/-- A table of the simplex method in memory, with the basis b. -/
def SimSt (B0 : Nat) (W : World) (tb rb Cb bb sb m n : Nat) (pa pb : Option Addr) (pc pd : Nat) (G C : Nat → Nat) (A : Nat → Nat → Int) (c0 c1 : Nat → Int) (sg : Nat → Int) (b : Nat → Nat) : Prop :=
 TSt B0 W tb rb Cb bb sb m n (n + m + m + 1) pa pb pc pd G C (tabE m A c0 c1 b) (fun i => (b i : Int)) sg (ddP m A b)

theorem neg_pred (w : World) : PredAt Tryz.prog 91 #[] (fun z : Int => Value.int .i64 z) (fun z => decide (z < 0)) w := fun W z hb => by
 show Calls Tryz.prog 91 #[.int .i64 z] W _
 go_enter Tryz.func91, Tryz.ntmps91
 go_wp2
 all_goals (go_ret; exact ⟨by simp_all, 0, rfl⟩)

theorem nonzero_pred (w : World) : PredAt Tryz.prog 89 #[] (fun z : Int => Value.int .i64 z) (fun z => z != 0) w := fun W z hb => by
 show Calls Tryz.prog 89 #[.int .i64 z] W _
 go_enter Tryz.func89, Tryz.ntmps89
 go_wp2
 all_goals (go_ret; exact ⟨by simp_all, 0, rfl⟩)

theorem idx_least (f : Nat → Int) (p : Int → Bool) (N : Nat) : (Lib.idxBy (fun _ y => p y) ((List.range N).map f) default = -1 ∧ ∀ i, i < N → p (f i) = false) ∨ ∃ d, d < N ∧ Lib.idxBy (fun _ y => p y) ((List.range N).map f) default = (d : Nat) ∧ p (f d) = true ∧ ∀ i, i < d → p (f i) = false := by
 have hz : ∀ j, j < N → ((List.range N).map f)[j]! = f j := fun j hj => by rw [getElem!_pos _ _ (by simpa using hj)]; simp
 have ht : ((List.range N).map f).take N = (List.range N).map f := List.take_of_length_le (by simp)
 have least : ∀ k, (∀ i, i < k → p (f i) = false) ∨ ∃ d, d < k ∧ p (f d) = true ∧ ∀ i, i < d → p (f i) = false := by
  intro k
  induction k with
  | zero => exact .inl fun i h => by omega
  | succ k ih =>
   rcases ih with ih | ⟨d, h1, h2, h3⟩
   ·cases h : p (f k)
    ·refine .inl fun i hi => ?_
     by_cases e : i = k
     ·rw [e]; exact h
     ·exact ih i (by omega)
    ·exact .inr ⟨k, by omega, h, ih⟩
   ·exact .inr ⟨d, by omega, h2, h3⟩
 rcases least N with h | ⟨d, h1, h2, h3⟩
 ·refine .inl ⟨?_, h⟩
  have := Lib.idxBy_miss (fun _ y => p y) ((List.range N).map f) N default (fun j hj => by rw [hz j hj]; exact h j hj)
  rwa [ht] at this
 ·refine .inr ⟨d, h1, ?_, h2, h3⟩
  have := Lib.idxBy_hit (fun _ y => p y) ((List.range N).map f) N d default h1 (by simp) (by rw [hz d h1]; exact h2) (fun j hj => by rw [hz j (by omega)]; exact h3 j hj)
  rwa [ht] at this

theorem index_any (fn : Nat) (p : Int → Bool) (hp : ∀ w, PredAt Tryz.prog fn #[] (fun z : Int => Value.int .i64 z) p w) (eg : ∀ args w, (callFunc fn args).run Tryz.prog w = .ok (.enter fn args) w)
  (g N cap : Nat) (f : Nat → Int) (w : World) (hc : ∀ j, j < N → w.cell? ⟨g, j, none⟩ = some (.int .i64 (f j))) (hN : N ≤ 1000) :
  Calls Tryz.prog 88 #[.slice (some ⟨g, 0, none⟩) N cap, .func (.func fn) #[] #[]] w fun e w' => (∃ k, w' = w.drewN k) ∧ ((e = .returned (.int .i64 (-1)) ∧ ∀ i, i < N → p (f i) = false) ∨ ∃ d, d < N ∧ e = .returned (.int .i64 (d : Nat)) ∧ p (f d) = true ∧ ∀ i, i < d → p (f i) = false) := by
 refine (Tryz.slices_IndexFunc (fun z : Int => Value.int .i64 z) p fn #[] eg g 0 N cap ((List.range N).map f) w (hp w) (by simp) (by omega) (fun j hj => ?_)).mono ?_
 ·rw [Nat.zero_add, hc j (by simpa using hj), getElem!_pos _ _ (by simpa using hj)]
  simp
 ·rintro e w' ⟨rfl, q, rfl⟩
  refine ⟨⟨q, rfl⟩, ?_⟩
  rw [List.take_of_length_le (by simp)]
  rcases idx_least f p N with ⟨h1, h2⟩ | ⟨d, h1, h2, h3, h4⟩
  ·rw [h1]; exact .inl ⟨rfl, h2⟩
  ·rw [h2]; exact .inr ⟨d, h1, rfl, h3, h4⟩

section
variable {B0 : Nat} {tb rb Cb bb sb m n : Nat} {pa pb : Option Addr} {pc pd : Nat} {G C : Nat → Nat} {A : Nat → Nat → Int} {f σ c0 c1 : Nat → Int} {sg : Nat → Int}

/-- A run ends: at a table without a negative cost, or with a column that nothing keeps from growing. -/
def RunP (m n : Nat) (A : Nat → Nat → Int) (z : Nat → Int) (t : Bool) (b : Nat → Nat) : Prop :=
 (t = true ∧ ∀ j, j < n + m → 0 ≤ zzP m A z b j) ∨ (t = false ∧ ∃ s, EntP m A z (n + m) b s ∧ ∀ i, i < m → ttP m A b i s ≤ 0)

set_option maxRecDepth 100000 in
set_option maxHeartbeats 16000000 in
theorem lower_any (hp : Prob n m A f σ c0 c1) (q : Nat) (z : Nat → Int) (hz : ∀ b j, tabE m A c0 c1 b q j = zzP m A z b j) (hq : q < m + 2) (J : (Nat → Nat) → Prop) (hJ : ∀ b b2, J b → GoodP m A (n + m + m + 1) (n + m + m) b → StepP m A z (n + m) (n + m + m) b b2 → J b2)
  (b : Nat → Nat) (hg : GoodP m A (n + m + m + 1) (n + m + m) b) (hj : J b) (w : World) (hB0 : B0 ≤ w.heap.size) (hS : SimSt B0 w tb rb Cb bb sb m n pa pb pc pd G C A c0 c1 sg b) :
  Calls Tryz.prog 50 #[.pointer (some ⟨tb, 0, none⟩), .slice (some ⟨G q, 0, none⟩) (n + m + m + 1) (C q)] w fun e w' => Below B0 w w' ∧
   ∃ b2 t, e = .returned (.bool t) ∧ SimSt B0 w' tb rb Cb bb sb m n pa pb pc pd G C A c0 c1 sg b2 ∧ GoodP m A (n + m + m + 1) (n + m + m) b2 ∧ J b2 ∧ RunP m n A z t b2 := by
 obtain ⟨N, hN⟩ := run_ends hg z (show n + m ≤ n + m + m + 1 by omega)
 have hm6 := hp.hm
 have hn12 := hp.hn.2
 have hn1 := hp.hn.1
 have hCq : n + m + m + 1 ≤ C q := hS.g.cap q hq
 have HC := Lib.hid hp
 have HZ := Lib.hid hz
 have HJ := Lib.hid hJ
 have HB0 := Lib.hid hB0
 have S0 : Hid (Below B0 w w ∧ SimSt B0 w tb rb Cb bb sb m n pa pb pc pd G C A c0 c1 sg b ∧ GoodP m A (n + m + m + 1) (n + m + m) b ∧ J b ∧ StpP m A z (n + m) (n + m + m) N b) := ⟨Below.refl _ _, hS, hg, hj, hN⟩
 have eg : ∀ args w, (callFunc 91 args).run Tryz.prog w = .ok (.enter 91 args) w := enters_of Tryz.func91 (by kernel_rfl) rfl
 have CI := fun W (f : Nat → Int) h => Lib.hid (index_any 91 (fun z => decide (z < 0)) neg_pred eg (G q) (n + m) (C q) f W h (by omega))
 have HCI := Lib.hid CI
 clear hp hz hJ hB0 hS hg hj hN eg CI
 go_enter Tryz.func50, Tryz.ntmps50
 go_wp2_with fail
 go_loopg [] N (fun g wx => ∃ b, Hid (Below B0 w wx ∧ SimSt B0 wx tb rb Cb bb sb m n pa pb pc pd G C A c0 c1 sg b ∧ GoodP m A (n + m + m + 1) (n + m + m) b ∧ J b ∧ StpP m A z (n + m) (n + m + m) g b))
 case atStart => exact ⟨b, S0⟩
 case round =>
  clear S0
  rename Nat => g
  obtain ⟨b, S⟩ := hrel
  rename World => W1
  have CF := Lib.hid (firstLack_any W1 S.out.2.1 (by omega) (by omega))
  have l1 : ((n + m : Nat) : Int) ≤ ((C q : Nat) : Int) := by omega
  have l2 : ¬ ((n + m : Nat) : Int) < 0 := by omega
  go_wp2_with (first | (go_at_call 87; (with_reducible refine ((CF.out).mono ?_)); rintro e w2 ⟨rfl, kk, rfl⟩))
  have hbx : Below W1.heap.size W1 (W1.drewN kk) := below_drewN' (Below.refl _ _) kk
  generalize W1.drewN kk = w2 at *
  have S2 : Hid (Below B0 w w2 ∧ SimSt B0 w2 tb rb Cb bb sb m n pa pb pc pd G C A c0 c1 sg b ∧ GoodP m A (n + m + m + 1) (n + m + m) b ∧ J b ∧ StpP m A z (n + m) (n + m + m) g b) := ⟨below_on2 S.out.1 HB0.out hbx, TSt.on S.out.2.1 hbx, S.out.2.2⟩
  clear S hbx CF
  have CX := HCI.out w2 (zzP m A z b) (fun j hj => by rw [← HZ.out b j]; exact S2.out.2.1.g.cell q j hq (by omega))
  (with_reducible refine ((CX.out).mono ?_))
  rintro e w3 ⟨⟨kk, hw3⟩, hcase⟩
  have hbx : Below w2.heap.size w2 w3 := by rw [hw3]; exact below_drewN' (Below.refl _ _) kk
  have S3 : Hid (Below B0 w w3 ∧ SimSt B0 w3 tb rb Cb bb sb m n pa pb pc pd G C A c0 c1 sg b ∧ GoodP m A (n + m + m + 1) (n + m + m) b ∧ J b ∧ StpP m A z (n + m) (n + m + m) g b) := ⟨below_on2 S2.out.1 HB0.out hbx, TSt.on S2.out.2.1 hbx, S2.out.2.2⟩
  clear S2 hbx hw3 CX
  rcases hcase with ⟨rfl, hall⟩ | ⟨s, hs, rfl, hs1, hs2⟩
  ·have HA := Lib.hid hall
   clear hall
   go_wp2_with fail
   go_ret
   exact ⟨S3.out.1, b, true, rfl, S3.out.2.1, S3.out.2.2.1, S3.out.2.2.2.1, .inl ⟨rfl, fun j hj => by have := of_decide_eq_false (HA.out j hj); omega⟩⟩
  ·have he : EntP m A z (n + m) b s := ⟨hs, of_decide_eq_true hs1, fun j hj => by have := of_decide_eq_false (hs2 j hj); omega⟩
   have HE := Lib.hid he
   clear he hs1 hs2
   have sm := fun i j (hi : i < m + 2) (hj : j < n + m + m + 1) => HC.out.small S3.out.2.2.1 i j hj
   have CL := Lib.hid (leaving_any s w3 S3.out.2.1 (by omega) rfl (by omega) (by omega) (fun i j hi hj => by have := sm i j hi hj; omega))
   have sp := bestI_spec (tabE m A c0 c1 b) b (n + m + m) s m
   generalize bestI (tabE m A c0 c1 b) (fun i => (b i : Int)) (n + m + m) s m = y at *
   rcases sp with ⟨rfl, h2⟩ | ⟨r, rfl, h2, h3, h4⟩
   ·have H2 := Lib.hid h2
    clear h2 sm
    go_wp2_with (first | (go_at_call 92; (with_reducible refine ((CL.out).mono ?_)); rintro e w4 ⟨rfl, hb4⟩))
    go_ret
    have S4 : Below B0 w w4 ∧ SimSt B0 w4 tb rb Cb bb sb m n pa pb pc pd G C A c0 c1 sg b := ⟨below_on2 S3.out.1 HB0.out hb4, TSt.on S3.out.2.1 hb4⟩
    exact ⟨S4.1, b, false, rfl, S4.2, S3.out.2.2.1, S3.out.2.2.2.1, .inr ⟨rfl, s, HE.out, fun i hi => by have := H2.out i hi; unfold tabE at this; rwa [if_pos hi] at this⟩⟩
   ·have e1 : ∀ i j, i < m → tabE m A c0 c1 b i j = ttP m A b i j := fun i j hi => if_pos hi
    have hl : LevP m A (n + m + m) b s r := ⟨h2, by rw [← e1 r s h2]; exact h3, fun i hi h => by
     have := h4 i hi (by rw [e1 i s hi]; exact h)
     rw [e1 r _ h2, e1 i _ hi, e1 i _ hi, e1 r _ h2] at this
     exact this⟩
    have P := piv (e := 1) h2 (.inl rfl) (by rw [Int.one_mul]; exact hl.2.1)
    have HG2 := Lib.hid (S3.out.2.2.1.next (show s < n + m + m + 1 by omega) hl)
    have HST : Hid (StepP m A z (n + m) (n + m + m) b (updP b r s)) := ⟨s, r, HE.out, hl, rfl⟩
    have hu := HC.out.under S3.out.2.2.1
    have CP := fun W h hB => Lib.hid (pivot_any B0 tb rb Cb bb sb m n (n + m + m + 1) pa pb pc pd G C (tabE m A c0 c1 b) (tabE m A c0 c1 (updP b r s)) (fun i => (b i : Int)) sg (ddP m A b) r s W hB h h2 (by omega) (by omega) (by omega) hu.1 (by omega)
     (fun i j hi hj => by have := sm i j hi hj; omega) (fun i j hi hj => by have := HC.out.small HG2.out i j hj; omega)
     (fun j => by unfold tabE; rw [if_pos h2, if_pos h2, P.own j, Int.one_mul])
     (fun i j hi hj hn => by have := tab_step (c0 := c0) (c1 := c1) P h2 i j hn; rw [Int.one_mul, Int.one_mul] at this; exact this))
    have HCP := Lib.hid CP
    have HD : Hid (tabE m A c0 c1 b r s = ddP m A (updP b r s)) := by
     have e2 := P.dd
     rw [Int.one_mul] at e2
     show tabE m A c0 c1 b r s = _
     rw [e1 r s h2, e2]
    clear CP P hl h2 h3 h4 e1 sm hu
    go_wp2_with (first | (go_at_call 92; (with_reducible refine ((CL.out).mono ?_)); rintro e w4 ⟨rfl, hb4⟩))
    have S4 : Hid (Below B0 w w4 ∧ SimSt B0 w4 tb rb Cb bb sb m n pa pb pc pd G C A c0 c1 sg b) := ⟨below_on2 S3.out.1 HB0.out hb4, TSt.on S3.out.2.1 hb4⟩
    have CQ := HCP.out w4 S4.out.2 (Nat.le_trans HB0.out S4.out.1.size)
    (with_reducible refine ((CQ.out).mono ?_))
    rintro e w5 ⟨rfl, hb5, h5⟩
    obtain ⟨k, hk, hst⟩ := S3.out.2.2.2.2.next S3.out.2.2.1.nz HST.out
    have S5 : Hid (Below B0 w w5 ∧ SimSt B0 w5 tb rb Cb bb sb m n pa pb pc pd G C A c0 c1 sg (updP b r s) ∧ GoodP m A (n + m + m + 1) (n + m + m) (updP b r s) ∧ J (updP b r s) ∧ StpP m A z (n + m) (n + m + m) k (updP b r s)) := ⟨S4.out.1.trans hb5, by
     rw [setF_upd, HD.out] at h5
     exact h5, HG2.out, HJ.out b _ S3.out.2.2.2.1 S3.out.2.2.1 HST.out, hst⟩
    clear S3 S4 h5 hb5 hb4 hst CL CQ HCP HD HST HG2 HE
    go_wp2_with fail
    go_roundg k
    case measure => omega
    case rel => exact ⟨_, S5⟩

/-- The lacks are lowered as far as possible. -/
theorem fill_any (hp : Prob n m A f σ c0 c1) (J : (Nat → Nat) → Prop) (hJ : ∀ b b2, J b → GoodP m A (n + m + m + 1) (n + m + m) b → StepP m A c1 (n + m) (n + m + m) b b2 → J b2)
  (b : Nat → Nat) (hg : GoodP m A (n + m + m + 1) (n + m + m) b) (hj : J b) (w : World) (hB0 : B0 ≤ w.heap.size) (hS : SimSt B0 w tb rb Cb bb sb m n pa pb pc pd G C A c0 c1 sg b) :
  Calls Tryz.prog 48 #[.pointer (some ⟨tb, 0, none⟩)] w fun e w' => Below B0 w w' ∧
   ∃ b2 t, e = .returned (.bool (zzP m A c1 b2 (n + m + m) == 0)) ∧ SimSt B0 w' tb rb Cb bb sb m n pa pb pc pd G C A c0 c1 sg b2 ∧ GoodP m A (n + m + m + 1) (n + m + m) b2 ∧ J b2 ∧ RunP m n A c1 t b2 := by
 have hm6 := hp.hm
 have hn12 := hp.hn.2
 have hz : ∀ b j, tabE m A c0 c1 b (m + 1) j = zzP m A c1 b j := fun b j => by unfold tabE; rw [if_neg (by omega), if_neg (by omega)]
 have HS := Lib.hid hS
 have HB0 := Lib.hid hB0
 have HZ := Lib.hid hz
 have C0 := Lib.hid (lacks_any w hS (by omega))
 have CW := fun W (h : SimSt B0 W tb rb Cb bb sb m n pa pb pc pd G C A c0 c1 sg b) hB => Lib.hid (lower_any hp (m + 1) c1 hz (by omega) J hJ b hg hj W hB h)
 have HCW := Lib.hid CW
 clear hp hJ hg hj hz CW hS hB0
 go_enter Tryz.func48, Tryz.ntmps48
 go_wp2_with (first | (go_at_call 55; (with_reducible refine ((C0.out).mono ?_)); rintro e w1 ⟨rfl, kk, rfl⟩))
 have hbx : Below w.heap.size w (w.drewN kk) := below_drewN' (Below.refl _ _) kk
 generalize w.drewN kk = w2 at *
 have S2 : Hid (Below B0 w w2 ∧ SimSt B0 w2 tb rb Cb bb sb m n pa pb pc pd G C A c0 c1 sg b) := ⟨hbx.mono HB0.out, TSt.on HS.out hbx⟩
 have CL := HCW.out w2 S2.out.2 (Nat.le_trans HB0.out S2.out.1.size)
 (with_reducible refine ((CL.out).mono ?_))
 rintro e w3 ⟨hb3, b2, t, rfl, h1, h2, h3, h4⟩
 have S3 : Hid (Below B0 w w3 ∧ SimSt B0 w3 tb rb Cb bb sb m n pa pb pc pd G C A c0 c1 sg b2) := ⟨S2.out.1.trans hb3, h1⟩
 have H4 := Lib.hid (And.intro h2 (And.intro h3 h4))
 clear S2 hb3 h1 h2 h3 h4 HCW CL HS hbx C0
 have C3 := Lib.hid (lacks_any w3 S3.out.2 (by omega))
 have C4 := fun k => Lib.hid (right_any (w3.drewN k) (TSt.on S3.out.2 (below_drewN' (Below.refl _ _) k)) (by omega) (by omega))
 have p1 := S3.out.2.g.cell (m + 1) (n + m + m) (by omega) (by omega)
 rw [HZ.out] at p1
 obtain ⟨x, hx⟩ : ∃ x, zzP m A c1 b2 (n + m + m) = x := ⟨_, rfl⟩
 rw [hx] at p1
 have HX := Lib.hid hx
 clear hx
 have l1 : ((n + m + m : Nat) : Int) < ((n + m + m + 1 : Nat) : Int) := by omega
 go_wp2_with (first | (go_at_call 55; (with_reducible refine ((C3.out).mono ?_)); rintro e w1 ⟨rfl, k1, rfl⟩) | (go_at_call 86; (with_reducible refine (((C4 _).out).mono ?_)); rintro e w1 ⟨rfl, k2, rfl⟩))
 all_goals
  go_ret
  refine ⟨below_drewN' S3.out.1 _, b2, t, ?_, TSt.on S3.out.2 (below_drewN' (Below.refl _ _) _), H4.out⟩
  rw [HX.out]
  rfl
end
end Go.Proofs.YtggpdhdbeokkcaaGreat
