/- Layer 5: which programs fit. -/
import Derived.Test.YtggpdhdbeokkcaaGreatPVal
namespace Go.Proofs.YtggpdhdbeokkcaaGreat
set_option linter.unusedVariables false
open Go.RowKit Go.Shelf

/-- A built slice's own block. -/
def SlR (W : World) (B : Nat) (l : List Value) : Prop := B < W.heap.size ∧ ∀ j u, l[j]? = some u → W.cell? ⟨B, j, none⟩ = some u
theorem SlR.on {W W2 : World} {B : Nat} {l : List Value} (h : SlR W B l) (hb : Below W.heap.size W W2) : SlR W2 B l := ⟨Nat.lt_of_lt_of_le h.1 hb.size, fun j u hu => (hb.cell (p := ⟨B, j, none⟩) h.1).trans (h.2 j u hu)⟩
theorem SlR.new (W : World) (l : List Value) (t : Nat) : SlR (W.alloc (Obj.cells l.toArray t)) W.heap.size l := ⟨by simp, fun j u hu => by simp [go_sem, hu]⟩
theorem SlR.news {W : World} {B : Nat} {l : List Value} (h : SlR W B l) : ∀ j u, l[j]? = some u → W.cell? ((⟨B, 0, none⟩ : Addr).add j) = some u := fun j u hu => by
 rw [show (⟨B, 0, none⟩ : Addr).add j = ⟨B, j, none⟩ by unfold Addr.add; split <;> simp_all]
 exact h.2 j u hu
theorem Own.facts {n : Nat} {W : World} {g : Nat} (h : Own n W g) : ∃ v0 v1, W.cell? ⟨g, 0, none⟩ = some v0 ∧ W.cell? ⟨g, 1, none⟩ = some v1 ∧ W.frozen? ⟨g, 0, none⟩ = false ∧ W.frozen? ⟨g, 1, none⟩ = false := by
 obtain ⟨_, ⟨v0, v1, h1⟩, h2⟩ := h
 exact ⟨v0, v1, h1.2.1, h1.2.2, h2.1, h2.2⟩

def absS (n : Nat) (f : Nat → Int) : Int := sumN n fun j => ((f j).natAbs : Int)
theorem absS_bd {n : Nat} {f : Nat → Int} {b : Int} (h : ∀ j, j < n → -b ≤ f j ∧ f j ≤ b) : 0 ≤ absS n f ∧ absS n f ≤ n * b := by
 have h1 := sumN_abs (n := n) (b := b) (f := fun j => ((f j).natAbs : Int)) (fun i hi => by have := h i hi; omega)
 exact ⟨sumN_nn fun _ _ => by omega, h1.2⟩

structure FitR (w0 : World) (rb k pc : Nat) (pa ca : Option Addr) (cl kc : Nat) (fc : Nat → Int) (rt kd r1 z1 s3 : Int) (Wc : World) (L : Nat → Bool) (v : Nat → Value) (W : World) : Prop where
 st : L 11 = false → Below Wc.heap.size Wc W
 f0 : Had L 0 (v 21 = .slice pa k pc)
 f1 : Had L 1 (v 22 = .pointer (some ⟨rb, 2, none⟩))
 f2 : Had L 2 (v 23 = .int .i64 rt)
 x3 : Had L 3 (L 11 = false → ∃ B, v 24 = .slice (some ⟨B, 0, none⟩) 1 1 ∧ SlR W B [.int .i64 rt])
 f4 : Had L 4 (v 25 = .int .i64 r1)
 f5 : Had L 5 (v 26 = .int .i64 (1 + r1))
 f6 : Had L 6 (v 27 = .pointer (some ⟨rb, 0, none⟩))
 f7 : Had L 7 (v 28 = .slice ca cl kc)
 f8 : Had L 8 (v 29 = .int .i64 z1)
 f9 : Had L 9 (v 30 = .int .i64 s3)
 x10 : Had L 10 (L 11 = false → ∃ B, v 31 = .slice (some ⟨B, 0, none⟩) 1 1 ∧ SlR W B [.int .i64 s3])
 x11 : Had L 11 (AppW Wc W w0.heap.size 3 (.slice pa k pc) k (((List.range k).map fun l => Value.int .i64 (fc l)) ++ [Value.int .i64 s3]) (v 32))
 f12 : Had L 12 (v 3 = v 32)
 i3 : L 12 = false → v 3 = .slice pa k pc
 w2 : Had L 2 (∀ j ∈ [1], L j = true)
 w3 : Had L 3 (∀ j ∈ [2], L j = true)
 w4 : Had L 4 (∀ j ∈ [3], L j = true)
 w5 : Had L 5 (∀ j ∈ [4], L j = true)
 w7 : Had L 7 (∀ j ∈ [6], L j = true)
 w8 : Had L 8 (∀ j ∈ [7], L j = true)
 w9 : Had L 9 (∀ j ∈ [5, 8], L j = true)
 w10 : Had L 10 (∀ j ∈ [9], L j = true)
 w11 : Had L 11 (∀ j ∈ [0, 10], L j = true)
 w12 : Had L 12 (∀ j ∈ [11], L j = true)

set_option maxHeartbeats 2000000 in
theorem psize_any (ra : Option Addr) (n c : Nat) (f : Nat → Int) (w : World) (hr : IRow w ra n f) (hn : n ≤ 12) (hb : ∀ j, j < n → -1073741824 ≤ f j ∧ f j ≤ 1073741824) :
  Calls Tryz.prog 82 #[.slice ra n c] w fun e w' => e = .returned (.int .i64 (absS n f)) ∧ Below w.heap.size w w' := by
 by_cases hn0 : 0 < n
 ·obtain ⟨g, o, rfl, h2, h3⟩ := hr hn0
  have HB := Lib.hid hb
  have HBD := Lib.hid (fun j (hj : j ≤ n) => absS_bd (n := j) (f := f) (b := 1073741824) (fun i hi => hb i (by omega)))
  have HC := Lib.hid h3
  clear hr h2 h3 hb
  go_enter Tryz.func82, Tryz.ntmps82
  go_wp2_with fail
  go_loopg [3, 8] n (fun g s3 s8 wx => ∃ j : Nat, s3 = .int .i64 (absS j f) ∧ s8 = .int .i64 j ∧ g = n - j ∧ j ≤ n ∧ wx = w)
  case atStart => exact ⟨0, rfl, rfl, rfl, Nat.zero_le _, rfl⟩
  case round =>
   obtain ⟨j, rfl, rfl, rfl, hj, rfl⟩ := hrel
   by_cases hlt : j < n
   ·have wk : IntKind.i64.wrap ((j : Int) + 1) = ((j + 1 : Nat) : Int) := by rw [IntWalk.i64_in _ (by omega)]; omega
    have p1 := HC.out j hlt
    have b1 := HBD.out j hj
    have b2 := HB.out j hlt
    have hs : absS (j + 1) f = absS j f + ((f j).natAbs : Int) := rfl
    have HS := Lib.hid hs
    obtain ⟨x, hx⟩ : ∃ x, f j = x := ⟨_, rfl⟩
    obtain ⟨y, hy⟩ : ∃ y, absS j f = y := ⟨_, rfl⟩
    rw [hx] at p1 b2
    rw [hy] at b1
    rw [hy]
    have HX := Lib.hid (And.intro hx hy)
    clear hx hy hs
    have wn : IntKind.i64.wrap (-x) = -x := IntWalk.i64_in _ (by omega)
    have hm : max x (-x) = (x.natAbs : Int) := by omega
    have ws : IntKind.i64.wrap (y + (x.natAbs : Int)) = y + (x.natAbs : Int) := IntWalk.i64_in _ (by omega)
    go_wp2_with fail
    go_roundg (n - (j + 1))
    case measure => omega
    case rel => exact ⟨j + 1, by rw [HS.out, HX.out.1, HX.out.2], rfl, rfl, by omega, rfl⟩
   ·have e : n = j := by omega
    subst e
    go_wp2_with fail
    go_ret
    exact ⟨rfl, Below.refl _ _⟩
 ·have e : n = 0 := by omega
  subst e
  clear hr hb
  go_enter Tryz.func82, Tryz.ntmps82
  go_wp2_with fail
  go_loopg [3, 8] 1 (fun g s3 s8 wx => s3 = .int .i64 0 ∧ s8 = .int .i64 0 ∧ g = 1 ∧ wx = w)
  case atStart => exact ⟨rfl, rfl, rfl, rfl⟩
  case round =>
   obtain ⟨rfl, rfl, rfl, rfl⟩ := hrel
   go_wp2_with fail
   go_ret
   exact ⟨rfl, Below.refl _ _⟩
theorem psize_one (z : Int) (w : World) (b : Nat) (hb : SlR w b [.int .i64 z]) (hz : -1073741824 ≤ z ∧ z ≤ 1073741824) :
  Calls Tryz.prog 82 #[.slice (some ⟨b, 0, none⟩) 1 1] w fun e w' => e = .returned (.int .i64 (z.natAbs : Int)) ∧ Below w.heap.size w w' := by
 have h := psize_any (some ⟨b, 0, none⟩) 1 1 (fun _ => z) w (fun _ => ⟨b, 0, rfl, hb.1, fun j hj => by rw [show 0 + j = 0 by omega]; exact hb.2 0 _ rfl⟩) (by omega) (fun _ _ => hz)
 have e : absS 1 (fun _ => z) = (z.natAbs : Int) := by show 0 + (z.natAbs : Int) = _; omega
 rwa [e] at h

/-- The factors of a program. -/
def facP (p : PgD) : Nat → Int
 | 0 => 1 + absS p.n p.C
 | i + 1 => fP p.n p.Z p.Rt i
theorem facP_bd {p : PgD} (hv : p.Ok) (l : Nat) (hl : l < p.m + 1) : 1 ≤ facP p l ∧ facP p l ≤ 2147483648 := by
 cases l with
 | zero =>
  have := absS_bd hv.c
  have h2 := hv.n2
  show 1 ≤ 1 + absS p.n p.C ∧ 1 + absS p.n p.C ≤ 2147483648
  omega
 | succ i =>
  have h1 := absS_bd (hv.z i (by omega))
  have h2 := hv.n2
  have h3 := hv.r i (by omega)
  show 1 ≤ 1 + absS p.n (p.Z i) + ((p.Rt i).natAbs : Int) ∧ 1 + absS p.n (p.Z i) + ((p.Rt i).natAbs : Int) ≤ 2147483648
  omega
/-- Which programs fit. -/
def FitP (p : PgD) : Prop := prodN (p.m + 1) (facP p) ≤ 17592186044416 ∧ ∀ l, l < p.m + 1 → prodN (p.m + 1) (facP p) * facP p l ≤ 144115188075855872
theorem fit_prob {p : PgD} (hv : p.Ok) (hf : FitP p) : Prob p.n p.m (tabA p.n p.m p.Z p.Kd p.Rt) (fP p.n p.Z p.Rt) (sgP5 p.Kd p.Rt) (c0F p.n p.C) (c1F p.n p.m) := by
 have e : ∀ k, prodN (k + 1) (facP p) = (1 + absS p.n p.C) * prodN k (fP p.n p.Z p.Rt) := by
  intro k
  induction k with
  | zero => show (1 : Int) * (1 + absS p.n p.C) = _ * 1; omega
  | succ k ih =>
   show prodN (k + 1) (facP p) * fP p.n p.Z p.Rt k = _ * (prodN k (fP p.n p.Z p.Rt) * fP p.n p.Z p.Rt k)
   rw [ih, Int.mul_assoc]
 have h1 := hf.1
 rw [e] at h1
 exact prob_start p.n p.m p.Z p.Kd p.Rt p.C ⟨hv.n1, hv.n2⟩ hv.m2 h1

theorem max_list (f : Nat → Int) (n : Nat) (hn : 0 < n) : (∀ l, l < n → f l ≤ Lib.maxOf ((List.range n).map f)) ∧ ∃ l, l < n ∧ Lib.maxOf ((List.range n).map f) = f l := by
 have key : ∀ k, 0 < k → k ≤ n → (∀ l, l < k → f l ≤ Lib.maxOf (((List.range n).map f).take k)) ∧ ∃ l, l < k ∧ Lib.maxOf (((List.range n).map f).take k) = f l := by
  intro k
  induction k with
  | zero => intro h; omega
  | succ k ih =>
   intro _ hk
   by_cases h0 : k = 0
   ·subst h0
    rw [Lib.maxOf_one]
    have e : ((List.range n).map f).getD 0 0 = f 0 := by simp [List.getD, hn]
    rw [e]
    exact ⟨fun l hl => by rw [show l = 0 by omega]; exact Int.le_refl _, 0, by omega, rfl⟩
   ·obtain ⟨h1, l0, h2, h3⟩ := ih (by omega) (by omega)
    rw [Lib.maxOf_step _ k (by omega) (by simp; omega)]
    have e : ((List.range n).map f).getD k 0 = f k := by simp [List.getD, show k < n by omega]
    rw [e]
    refine ⟨fun l hl => ?_, ?_⟩
    ·by_cases g : l = k
     ·rw [g]; omega
     ·have := h1 l (by omega); omega
    ·rcases Int.lt_or_le (Lib.maxOf (((List.range n).map f).take k)) (f k) with g | g
     ·exact ⟨k, by omega, by omega⟩
     ·exact ⟨l0, by omega, by omega⟩
 have := key n hn (Nat.le_refl _)
 rwa [List.take_of_length_le (by simp)] at this
theorem prod_pos {n : Nat} {f : Nat → Int} (h : ∀ l, l < n → 1 ≤ f l ∧ f l ≤ 2147483648) (k : Nat) (hk : k ≤ n) : 1 ≤ prodN k f := by
 induction k with
 | zero => show (1 : Int) ≤ 1; omega
 | succ k ih =>
  show 1 ≤ prodN k f * f k
  have h1 := ih (by omega)
  have h2 := (h k (by omega)).1
  have := Int.mul_le_mul h1 h2 (by omega) (by omega)
  omega
theorem prod_mono {n : Nat} {f : Nat → Int} (h : ∀ l, l < n → 1 ≤ f l ∧ f l ≤ 2147483648) (k : Nat) (hk : k ≤ n) : prodN k f ≤ prodN n f := by
 have key : ∀ d, k + d ≤ n → prodN k f ≤ prodN (k + d) f := by
  intro d
  induction d with
  | zero => intro _; exact Int.le_refl _
  | succ d ih =>
   intro hd
   refine Int.le_trans (ih (by omega)) ?_
   show prodN (k + d) f ≤ prodN (k + d) f * f (k + d)
   have h1 := prod_pos h (k + d) (by omega)
   have h2 := (h (k + d) (by omega)).1
   have := Int.mul_le_mul_of_nonneg_left h2 (show 0 ≤ prodN (k + d) f by omega)
   omega
 have := key (n - k) (by omega)
 rwa [show k + (n - k) = n by omega] at this
theorem fac_list (p : PgD) (i : Nat) (x : Int) (hx : x = facP p (i + 1)) : ((List.range (i + 1)).map fun l => Value.int .i64 (facP p l)) ++ [Value.int .i64 x] = (List.range (i + 1 + 1)).map fun l => Value.int .i64 (facP p l) := by
 rw [List.range_succ (n := i + 1), List.map_append, hx]; rfl

set_option maxRecDepth 100000 in
set_option maxHeartbeats 16000000 in
theorem fits_any (p : PgD) (hv : p.Ok) (v : Bool) (hfit : v = true ↔ FitP p) (w : World) (hp : p.At w) :
  Calls Tryz.prog 46 #[p.val] w fun e w' => e = .returned (.bool v) ∧ Below w.heap.size w w' := by
 unfold PgD.val
 have hb1 : Below w.heap.size w (w.alloc (Obj.cells #[Value.slice p.ca p.n p.cc, .slice p.ra p.m p.rc] 25)) := (Below.refl _ _).alloc (Nat.le_refl _) _
 obtain ⟨w1, hw1⟩ : ∃ W, W = w.alloc (Obj.cells #[Value.slice p.ca p.n p.cc, .slice p.ra p.m p.rc] 25) := ⟨_, rfl⟩
 obtain ⟨xb, hxb⟩ : ∃ x, x = w.heap.size := ⟨_, rfl⟩
 have hB : Blk w1 xb (.slice p.ca p.n p.cc) (.slice p.ra p.m p.rc) := by rw [hw1, hxb]; exact Blk.new _ _ _ _
 rw [← hw1] at hb1
 have HP := Lib.hid (hp.on hb1)
 have HP0 := Lib.hid hp
 have HB := Lib.hid hb1
 have HX := Lib.hid hB
 have HV := Lib.hid hv
 have HFT := Lib.hid hfit
 have hm2 := hv.m2
 have hn2 := hv.n2
 clear hb1 hp hB hv hfit
 obtain ⟨i0, hi0, hz0, hz1, hz2⟩ := info_parts (show (Tryz.prog.info? 3).map (fun i => (i.zero, i.size, i.bytes)) = some (some (Value.int IntKind.i64 0), 1, 8) by kernel_rfl)
 have HI := Lib.hid (And.intro hi0 (And.intro hz0 (And.intro hz1 hz2)))
 clear hi0 hz0 hz1 hz2
 have C1 := Lib.hid (psize_any p.ca p.n p.cc p.C w1 HP.out.cost hn2 (fun j hj => by have := HV.out.c j hj; omega))
 have hb0 := absS_bd HV.out.c
 have w1e : IntKind.i64.wrap (1 + absS p.n p.C) = facP p 0 := by
  show _ = 1 + absS p.n p.C
  exact IntWalk.i64_in _ (by omega)
 generalize absS p.n p.C = a0 at *
 go_enter Tryz.func46, Tryz.ntmps46
 go_upto_region 1 with fail
 rw [← hxb, ← hw1]
 clear hxb hw1
 have q0 := HX.out.2.1
 go_wp2_with fail
 (with_reducible refine ((C1.out).mono ?_))
 rintro e w2 ⟨rfl, hb2⟩
 have H2 := Lib.hid (And.intro (below_on HB.out hb2) (And.intro (HP.out.on hb2) (HX.out.on hb2)))
 clear hb2 C1 HB HP HX q0
 go_upto_region 2 with fail
 obtain ⟨fb, hfb⟩ : ∃ x, x = w2.heap.size := ⟨_, rfl⟩
 obtain ⟨W3, hW3⟩ : ∃ V, V = w2.alloc (Obj.cells #[Value.int IntKind.i64 (facP p 0)] 3) := ⟨_, rfl⟩
 rw [← hfb, ← hW3]
 have hb3 : Below w2.heap.size w2 W3 := by rw [hW3]; exact (Below.refl _ _).alloc (Nat.le_refl _) _
 have ho3 : W3.ownsRow w.heap.size 3 1 (.slice (some ⟨fb, 0, none⟩) 1 1) 1 ((List.range (0 + 1)).map fun l => Value.int .i64 (facP p l)) :=
  ⟨by simp, .inr ⟨fb, 1, #[Value.int .i64 (facP p 0)], rfl, by rw [hfb]; exact H2.out.1.size, by rw [hW3, hfb]; exact heap_alloc_new w2 _, Nat.le_refl _, by unfold maxLen; omega, by simp, by simp⟩⟩
 have S0 : Hid (Below w.heap.size w W3 ∧ W3.ownsRow w.heap.size 3 1 (.slice (some ⟨fb, 0, none⟩) 1 1) (0 + 1) ((List.range (0 + 1)).map fun l => Value.int .i64 (facP p l))) := ⟨below_on H2.out.1 hb3, ho3⟩
 have q1 := (H2.out.2.2.on hb3).2.2
 clear hfb hW3 hb3 ho3 H2
 go_wp2_with fail
 clear q1
 go_loopg [17, 3] p.m (fun g s17 s3 wx => ∃ i : Nat, s17 = .int .i64 i ∧ g = p.m - i ∧ i ≤ p.m ∧ Hid (Below w.heap.size w wx ∧ wx.ownsRow w.heap.size 3 1 s3 (i + 1) ((List.range (i + 1)).map fun l => Value.int .i64 (facP p l))))
 case atStart => exact ⟨0, rfl, rfl, Nat.zero_le _, S0⟩
 case round =>
  clear S0
  obtain ⟨i, rfl, rfl, hi, S⟩ := hrel
  rename World => W1
  obtain ⟨pa, pc, hpv⟩ := own_form S.out.2
  have hat := HP0.out.on S.out.1
  subst hpv
  by_cases hlt : i < p.m
  ·have wk : IntKind.i64.wrap ((i : Int) + 1) = ((i + 1 : Nat) : Int) := by rw [IntWalk.i64_in _ (by omega)]; omega
   obtain ⟨gr, gro, er, hgr, hrow⟩ := hat.rows (by omega)
   have hri := hrow i hlt
   rw [er]
   have q1 := hri.1
   have q2 := hri.2.1
   have q3 := hri.2.2
   rw [HV.out.l i hlt] at q1
   have hzr := HV.out.r i hlt
   have HIR := hat.coef i hlt
   rw [HV.out.l i hlt] at HIR
   clear hrow hri hat
   obtain ⟨rt, hrt⟩ : ∃ x, p.Rt i = x := ⟨_, rfl⟩
   obtain ⟨kd, hkd⟩ : ∃ x, p.Kd i = x := ⟨_, rfl⟩
   rw [hrt] at q3 hzr
   rw [hkd] at q2
   have hz := absS_bd (HV.out.z i hlt)
   obtain ⟨z1, hz1⟩ : ∃ x, absS p.n (p.Z i) = x := ⟨_, rfl⟩
   rw [hz1] at hz
   have hs3 : facP p (i + 1) = 1 + z1 + (rt.natAbs : Int) := by
    show fP p.n p.Z p.Rt i = _
    unfold fP
    rw [hrt, ← hz1]; rfl
   obtain ⟨s3, hs3e⟩ : ∃ x, 1 + (rt.natAbs : Int) + z1 = x := ⟨_, rfl⟩
   have HS3 : Hid (s3 = facP p (i + 1)) := by show s3 = _; rw [hs3, ← hs3e]; omega
   obtain ⟨r1, hr1⟩ : ∃ x, (rt.natAbs : Int) = x := ⟨_, rfl⟩
   have hr1b : 0 ≤ r1 ∧ r1 ≤ 1073741824 := by omega
   have wa : IntKind.i64.wrap (1 + r1) = 1 + r1 := IntWalk.i64_in _ (by omega)
   have wb : IntKind.i64.wrap (1 + r1 + z1) = s3 := by rw [IntWalk.i64_in _ (by omega), ← hs3e, hr1]
   have CS1 : ∀ (W : World) (_ : Below W.heap.size W W) B, SlR W B [.int .i64 rt] → Hid (Calls Tryz.prog 82 #[.slice (some ⟨B, 0, none⟩) 1 1] W fun e w' => e = .returned (.int .i64 r1) ∧ Below W.heap.size W w') := fun W _ B hB => by rw [← hr1]; exact psize_one rt W B hB hzr
   have HRT := Lib.hid (And.intro hrt (And.intro hkd (And.intro hz1 (And.intro hs3e hr1))))
   go_upto_region 5 with fail
   obtain ⟨rb, hrb⟩ : ∃ x, x = W1.heap.size := ⟨_, rfl⟩
   obtain ⟨W2, hW2⟩ : ∃ V, V = W1.alloc (Obj.cells #[Value.slice (p.Ca i) p.n (p.Kc i), Value.int IntKind.i64 kd, Value.int IntKind.i64 rt] 53) := ⟨_, rfl⟩
   rw [← hrb, ← hW2]
   have hb2 : Below W1.heap.size W1 W2 := by rw [hW2]; exact (Below.refl _ _).alloc (Nat.le_refl _) _
   have hr2 : EBlk W2 rb (.slice (p.Ca i) p.n (p.Kc i)) (.int .i64 kd) (.int .i64 rt) := by
    rw [hW2, hrb]
    exact ⟨by simp, by simp [go_sem], by simp [go_sem], by simp [go_sem], by simp [go_sem], by simp [go_sem], by simp [go_sem]⟩
   have LR : Hid (W2.cell? ⟨rb, 2, none⟩ = some (.int .i64 rt) ∧ rb < W2.heap.size) := ⟨hr2.c2, hr2.hb⟩
   have LC : Hid (W2.cell? ⟨rb, 0, none⟩ = some (.slice (p.Ca i) p.n (p.Kc i)) ∧ rb < W2.heap.size) := ⟨hr2.c0, hr2.hb⟩
   have LO : Hid (W2.ownsRow w.heap.size 3 1 (.slice pa (i + 1) pc) (i + 1) ((List.range (i + 1)).map fun l => Value.int .i64 (facP p l))) := own_only S.out.2 (Only.of_below (S := fun _ => False) hb2) (fun _ _ q => q)
   have LB : Hid (w.heap.size ≤ W2.heap.size) := Nat.le_trans S.out.1.size hb2.size
   have CS2 : ∀ (W : World) (_ : Below W2.heap.size W2 W), Hid (Calls Tryz.prog 82 #[.slice (p.Ca i) p.n (p.Kc i)] W fun e w' => e = .returned (.int .i64 z1) ∧ Below W.heap.size W w') := fun W hb => by rw [← hz1]; exact psize_any (p.Ca i) p.n (p.Kc i) (p.Z i) W ((HIR.on hb2).on hb) hn2 (fun j hj => by have := HV.out.z i hlt j hj; omega)
   have HB2 := Lib.hid hb2
   have CS1 := fun (W : World) (_ : Below W2.heap.size W2 W) B h => CS1 W (Below.refl _ _) B h
   clear hb2 hr2 hW2 hrb q1 q2 q3 hrt hkd hz1 hs3 hs3e hr1 HIR
   refine wp_region_each (fun L A W => ∃ (v : Nat → Value), A = ⟨#[_, _, _, v 3, _, _, _, _, _, _, _, _, _, _, _, _, _, _, _, _, _, v 21, v 22, v 23, v 24, v 25, v 26, v 27, v 28, v 29, v 30, v 31, v 32, _, _, _, _, _, _, _, _, _, _, _, _, _, _, _, _, _, _, _, _], []⟩ ∧ FitR w rb (i + 1) pc pa (p.Ca i) p.n (p.Kc i) (facP p) rt kd r1 z1 s3 W2 L v W) (by kernel_rfl) (by kernel_rfl) ⟨fun jz => if jz = 21 then u21 else if jz = 22 then u22 else if jz = 23 then u23 else if jz = 24 then u24 else if jz = 25 then u25 else if jz = 26 then u26 else if jz = 27 then u27 else if jz = 28 then u28 else if jz = 29 then u29 else if jz = 30 then u30 else if jz = 31 then u31 else if jz = 32 then u32 else if jz = 3 then .slice pa (i + 1) pc else undef, rfl, ⟨(fun _ => Below.drew (Below.refl _ _)), Had.none, Had.none, Had.none, Had.none, Had.none, Had.none, Had.none, Had.none, Had.none, Had.none, Had.none, Had.none, Had.none, (fun _ => rfl), Had.none, Had.none, Had.none, Had.none, Had.none, Had.none, Had.none, Had.none, Had.none, Had.none⟩⟩ (rs := [0, 1, 2, 3, 4, 5, 6, 7, 8, 9, 10, 11, 12]) (by kernel_rfl) ?_ ?_
   ·refine EachOf.cons [] rfl (by kernel_rfl) ?_ ?_
    ·rintro L A W ⟨v, rfl, hR⟩ hi hw K hK
     have hk : L 11 = false := hR.w11.not hi rfl
     have ei3 := hR.i3 (hR.w12.not (hR.w11.not hi rfl) rfl)
     simp only [ei3]
     have hkw11 : L 11 = false := hR.w11.not hi rfl
     go_simp
     refine hK.out _ _ ?_
     exact ⟨(fun jz => if jz = 3 then .slice pa (i + 1) pc else if jz = 21 then .slice pa (i + 1) pc else v jz), rfl, ⟨(fun h => hR.st (upd_false h)), (fun _ => rfl), hR.f1.k, hR.f2.k, hR.x3.keepM rfl (fun h hx => h (upd_false hx)), hR.f4.k, hR.f5.k, hR.f6.k, hR.f7.k, hR.f8.k, hR.f9.k, hR.x10.keepM rfl (fun h hx => h (upd_false hx)), hR.x11.k, (fun h => absurd (hR.w12 (upd_back h (by decide)) 11 (by simp)) (by simp [hkw11])), (fun h => rfl), hR.w2.o, hR.w3.o, hR.w4.o, hR.w5.o, hR.w7.o, hR.w8.o, hR.w9.o, hR.w10.o, hR.w11.o, hR.w12.o⟩⟩
    refine EachOf.cons [] rfl (by kernel_rfl) ?_ ?_
    ·rintro L A W ⟨v, rfl, hR⟩ hi hw K hK
     have hk : L 11 = false := hR.w11.not (hR.w10.not (hR.w9.not (hR.w5.not (hR.w4.not (hR.w3.not (hR.w2.not hi rfl) rfl) rfl) rfl) rfl) rfl) rfl
     have hkw11 : L 11 = false := hR.w11.not (hR.w10.not (hR.w9.not (hR.w5.not (hR.w4.not (hR.w3.not (hR.w2.not hi rfl) rfl) rfl) rfl) rfl) rfl) rfl
     go_simp
     refine hK.out _ _ ?_
     exact ⟨(fun jz => if jz = 22 then .pointer (some ⟨rb, 2, none⟩) else v jz), rfl, ⟨(fun h => hR.st (upd_false h)), hR.f0.k, (fun _ => rfl), hR.f2.k, hR.x3.keepM rfl (fun h hx => h (upd_false hx)), hR.f4.k, hR.f5.k, hR.f6.k, hR.f7.k, hR.f8.k, hR.f9.k, hR.x10.keepM rfl (fun h hx => h (upd_false hx)), hR.x11.k, (fun h => absurd (hR.w12 (upd_back h (by decide)) 11 (by simp)) (by simp [hkw11])), (fun h => hR.i3 (upd_false h)), hR.w2.o, hR.w3.o, hR.w4.o, hR.w5.o, hR.w7.o, hR.w8.o, hR.w9.o, hR.w10.o, hR.w11.o, hR.w12.o⟩⟩
    refine EachOf.cons [1] rfl (by kernel_rfl) ?_ ?_
    ·rintro L A W ⟨v, rfl, hR⟩ hi hw K hK
     have hk : L 11 = false := hR.w11.not (hR.w10.not (hR.w9.not (hR.w5.not (hR.w4.not (hR.w3.not hi rfl) rfl) rfl) rfl) rfl) rfl
     have e1 := hR.f1 (hw 1 (by simp))
     simp only [e1]
     clear e1
     have q0 := ((hR.st hk).cell (p := ⟨rb, 2, none⟩) LR.out.2).trans LR.out.1
     have hkw11 : L 11 = false := hR.w11.not (hR.w10.not (hR.w9.not (hR.w5.not (hR.w4.not (hR.w3.not hi rfl) rfl) rfl) rfl) rfl) rfl
     go_simp
     refine hK.out _ _ ?_
     exact ⟨(fun jz => if jz = 22 then .pointer (some ⟨rb, 2, none⟩) else if jz = 23 then .int .i64 rt else v jz), rfl, ⟨(fun h => hR.st (upd_false h)), hR.f0.k, (fun _ => rfl), (fun _ => rfl), hR.x3.keepM rfl (fun h hx => h (upd_false hx)), hR.f4.k, hR.f5.k, hR.f6.k, hR.f7.k, hR.f8.k, hR.f9.k, hR.x10.keepM rfl (fun h hx => h (upd_false hx)), hR.x11.k, (fun h => absurd (hR.w12 (upd_back h (by decide)) 11 (by simp)) (by simp [hkw11])), (fun h => hR.i3 (upd_false h)), (fun _ j hj => upd_on (hw j hj)), hR.w3.o, hR.w4.o, hR.w5.o, hR.w7.o, hR.w8.o, hR.w9.o, hR.w10.o, hR.w11.o, hR.w12.o⟩⟩
    refine EachOf.cons [2] rfl (by kernel_rfl) ?_ ?_
    ·rintro L A W ⟨v, rfl, hR⟩ hi hw K hK
     have hk : L 11 = false := hR.w11.not (hR.w10.not (hR.w9.not (hR.w5.not (hR.w4.not hi rfl) rfl) rfl) rfl) rfl
     have hk10 : L 10 = false := hR.w10.not (hR.w9.not (hR.w5.not (hR.w4.not hi rfl) rfl) rfl) rfl
     have e2 := hR.f2 (hw 2 (by simp))
     simp only [e2]
     clear e2
     have hkw11 : L 11 = false := hR.w11.not (hR.w10.not (hR.w9.not (hR.w5.not (hR.w4.not hi rfl) rfl) rfl) rfl) rfl
     have hb : Below W.heap.size W (W.alloc _) := (Below.refl _ _).alloc (Nat.le_refl _) (Obj.cells #[.int .i64 rt] 3)
     go_simp
     refine hK.out _ _ ?_
     exact ⟨(fun jz => if jz = 23 then .int .i64 rt else if jz = 24 then .slice (some ⟨W.heap.size, 0, none⟩) 1 1 else v jz), rfl, ⟨(fun _ => below_on (hR.st hk) hb), hR.f0.k, hR.f1.k, (fun _ => rfl), (fun _ _ => ⟨W.heap.size, rfl, SlR.new _ _ _⟩), hR.f4.k, hR.f5.k, hR.f6.k, hR.f7.k, hR.f8.k, hR.f9.k, (fun h => absurd (upd_back h rfl) (by simp [hk10])), (fun h => absurd (upd_back h rfl) (by simp [hk])), (fun h => absurd (hR.w12 (upd_back h (by decide)) 11 (by simp)) (by simp [hkw11])), (fun h => hR.i3 (upd_false h)), hR.w2.o, (fun _ j hj => upd_on (hw j hj)), hR.w4.o, hR.w5.o, hR.w7.o, hR.w8.o, hR.w9.o, hR.w10.o, hR.w11.o, hR.w12.o⟩⟩
    refine EachOf.cons [3] rfl (by kernel_rfl) ?_ ?_
    ·rintro L A W ⟨v, rfl, hR⟩ hi hw K hK
     have hk : L 11 = false := hR.w11.not (hR.w10.not (hR.w9.not (hR.w5.not hi rfl) rfl) rfl) rfl
     have hk10 : L 10 = false := hR.w10.not (hR.w9.not (hR.w5.not hi rfl) rfl) rfl
     obtain ⟨B3, e3, hB3⟩ := hR.x3 (hw 3 (by simp)) hk
     simp only [e3]
     have hkw11 : L 11 = false := hR.w11.not (hR.w10.not (hR.w9.not (hR.w5.not hi rfl) rfl) rfl) rfl
     go_simp
     go_at_call 82
     (with_reducible refine ((CS1 W (hR.st hk) B3 hB3).out.mono ?_))
     rintro e w2 ⟨rfl, hb⟩
     go_simp
     refine hK.out _ _ ?_
     exact ⟨(fun jz => if jz = 24 then .slice (some ⟨B3, 0, none⟩) 1 1 else if jz = 25 then .int .i64 r1 else v jz), rfl, ⟨(fun _ => below_on (hR.st hk) hb), hR.f0.k, hR.f1.k, hR.f2.k, (fun _ _ => ⟨B3, rfl, hB3.on hb⟩), (fun _ => rfl), hR.f5.k, hR.f6.k, hR.f7.k, hR.f8.k, hR.f9.k, (fun h => absurd (upd_back h rfl) (by simp [hk10])), (fun h => absurd (upd_back h rfl) (by simp [hk])), (fun h => absurd (hR.w12 (upd_back h (by decide)) 11 (by simp)) (by simp [hkw11])), (fun h => hR.i3 (upd_false h)), hR.w2.o, hR.w3.o, (fun _ j hj => upd_on (hw j hj)), hR.w5.o, hR.w7.o, hR.w8.o, hR.w9.o, hR.w10.o, hR.w11.o, hR.w12.o⟩⟩
    refine EachOf.cons [4] rfl (by kernel_rfl) ?_ ?_
    ·rintro L A W ⟨v, rfl, hR⟩ hi hw K hK
     have hk : L 11 = false := hR.w11.not (hR.w10.not (hR.w9.not hi rfl) rfl) rfl
     have e4 := hR.f4 (hw 4 (by simp))
     simp only [e4]
     clear e4
     have hkw11 : L 11 = false := hR.w11.not (hR.w10.not (hR.w9.not hi rfl) rfl) rfl
     go_simp
     refine hK.out _ _ ?_
     exact ⟨(fun jz => if jz = 25 then .int .i64 r1 else if jz = 26 then .int .i64 (1 + r1) else v jz), rfl, ⟨(fun h => hR.st (upd_false h)), hR.f0.k, hR.f1.k, hR.f2.k, hR.x3.keepM rfl (fun h hx => h (upd_false hx)), (fun _ => rfl), (fun _ => rfl), hR.f6.k, hR.f7.k, hR.f8.k, hR.f9.k, hR.x10.keepM rfl (fun h hx => h (upd_false hx)), hR.x11.k, (fun h => absurd (hR.w12 (upd_back h (by decide)) 11 (by simp)) (by simp [hkw11])), (fun h => hR.i3 (upd_false h)), hR.w2.o, hR.w3.o, hR.w4.o, (fun _ j hj => upd_on (hw j hj)), hR.w7.o, hR.w8.o, hR.w9.o, hR.w10.o, hR.w11.o, hR.w12.o⟩⟩
    refine EachOf.cons [] rfl (by kernel_rfl) ?_ ?_
    ·rintro L A W ⟨v, rfl, hR⟩ hi hw K hK
     have hk : L 11 = false := hR.w11.not (hR.w10.not (hR.w9.not (hR.w8.not (hR.w7.not hi rfl) rfl) rfl) rfl) rfl
     have hkw11 : L 11 = false := hR.w11.not (hR.w10.not (hR.w9.not (hR.w8.not (hR.w7.not hi rfl) rfl) rfl) rfl) rfl
     go_simp
     refine hK.out _ _ ?_
     exact ⟨(fun jz => if jz = 27 then .pointer (some ⟨rb, 0, none⟩) else v jz), rfl, ⟨(fun h => hR.st (upd_false h)), hR.f0.k, hR.f1.k, hR.f2.k, hR.x3.keepM rfl (fun h hx => h (upd_false hx)), hR.f4.k, hR.f5.k, (fun _ => rfl), hR.f7.k, hR.f8.k, hR.f9.k, hR.x10.keepM rfl (fun h hx => h (upd_false hx)), hR.x11.k, (fun h => absurd (hR.w12 (upd_back h (by decide)) 11 (by simp)) (by simp [hkw11])), (fun h => hR.i3 (upd_false h)), hR.w2.o, hR.w3.o, hR.w4.o, hR.w5.o, hR.w7.o, hR.w8.o, hR.w9.o, hR.w10.o, hR.w11.o, hR.w12.o⟩⟩
    refine EachOf.cons [6] rfl (by kernel_rfl) ?_ ?_
    ·rintro L A W ⟨v, rfl, hR⟩ hi hw K hK
     have hk : L 11 = false := hR.w11.not (hR.w10.not (hR.w9.not (hR.w8.not hi rfl) rfl) rfl) rfl
     have e6 := hR.f6 (hw 6 (by simp))
     simp only [e6]
     clear e6
     have q0 := ((hR.st hk).cell (p := ⟨rb, 0, none⟩) LC.out.2).trans LC.out.1
     have hkw11 : L 11 = false := hR.w11.not (hR.w10.not (hR.w9.not (hR.w8.not hi rfl) rfl) rfl) rfl
     go_simp
     refine hK.out _ _ ?_
     exact ⟨(fun jz => if jz = 27 then .pointer (some ⟨rb, 0, none⟩) else if jz = 28 then .slice (p.Ca i) p.n (p.Kc i) else v jz), rfl, ⟨(fun h => hR.st (upd_false h)), hR.f0.k, hR.f1.k, hR.f2.k, hR.x3.keepM rfl (fun h hx => h (upd_false hx)), hR.f4.k, hR.f5.k, (fun _ => rfl), (fun _ => rfl), hR.f8.k, hR.f9.k, hR.x10.keepM rfl (fun h hx => h (upd_false hx)), hR.x11.k, (fun h => absurd (hR.w12 (upd_back h (by decide)) 11 (by simp)) (by simp [hkw11])), (fun h => hR.i3 (upd_false h)), hR.w2.o, hR.w3.o, hR.w4.o, hR.w5.o, (fun _ j hj => upd_on (hw j hj)), hR.w8.o, hR.w9.o, hR.w10.o, hR.w11.o, hR.w12.o⟩⟩
    refine EachOf.cons [7] rfl (by kernel_rfl) ?_ ?_
    ·rintro L A W ⟨v, rfl, hR⟩ hi hw K hK
     have hk : L 11 = false := hR.w11.not (hR.w10.not (hR.w9.not hi rfl) rfl) rfl
     have hk10 : L 10 = false := hR.w10.not (hR.w9.not hi rfl) rfl
     have e7 := hR.f7 (hw 7 (by simp))
     simp only [e7]
     clear e7
     have hkw11 : L 11 = false := hR.w11.not (hR.w10.not (hR.w9.not hi rfl) rfl) rfl
     go_simp
     go_at_call 82
     (with_reducible refine ((CS2 W (hR.st hk)).out.mono ?_))
     rintro e w2 ⟨rfl, hb⟩
     go_simp
     refine hK.out _ _ ?_
     exact ⟨(fun jz => if jz = 28 then .slice (p.Ca i) p.n (p.Kc i) else if jz = 29 then .int .i64 z1 else v jz), rfl, ⟨(fun _ => below_on (hR.st hk) hb), hR.f0.k, hR.f1.k, hR.f2.k, hR.x3.keepM rfl (fun h hx => by obtain ⟨B, e, r⟩ := h (upd_false hx); exact ⟨B, e, r.on hb⟩), hR.f4.k, hR.f5.k, hR.f6.k, (fun _ => rfl), (fun _ => rfl), hR.f9.k, (fun h => absurd (upd_back h rfl) (by simp [hk10])), (fun h => absurd (upd_back h rfl) (by simp [hk])), (fun h => absurd (hR.w12 (upd_back h (by decide)) 11 (by simp)) (by simp [hkw11])), (fun h => hR.i3 (upd_false h)), hR.w2.o, hR.w3.o, hR.w4.o, hR.w5.o, hR.w7.o, (fun _ j hj => upd_on (hw j hj)), hR.w9.o, hR.w10.o, hR.w11.o, hR.w12.o⟩⟩
    refine EachOf.cons [5, 8] rfl (by kernel_rfl) ?_ ?_
    ·rintro L A W ⟨v, rfl, hR⟩ hi hw K hK
     have hk : L 11 = false := hR.w11.not (hR.w10.not hi rfl) rfl
     have e5 := hR.f5 (hw 5 (by simp))
     have e8 := hR.f8 (hw 8 (by simp))
     simp only [e5, e8]
     clear e5 e8
     have hkw11 : L 11 = false := hR.w11.not (hR.w10.not hi rfl) rfl
     go_simp
     refine hK.out _ _ ?_
     exact ⟨(fun jz => if jz = 26 then .int .i64 (1 + r1) else if jz = 29 then .int .i64 z1 else if jz = 30 then .int .i64 s3 else v jz), rfl, ⟨(fun h => hR.st (upd_false h)), hR.f0.k, hR.f1.k, hR.f2.k, hR.x3.keepM rfl (fun h hx => h (upd_false hx)), hR.f4.k, (fun _ => rfl), hR.f6.k, hR.f7.k, (fun _ => rfl), (fun _ => rfl), hR.x10.keepM rfl (fun h hx => h (upd_false hx)), hR.x11.k, (fun h => absurd (hR.w12 (upd_back h (by decide)) 11 (by simp)) (by simp [hkw11])), (fun h => hR.i3 (upd_false h)), hR.w2.o, hR.w3.o, hR.w4.o, hR.w5.o, hR.w7.o, hR.w8.o, (fun _ j hj => upd_on (hw j hj)), hR.w10.o, hR.w11.o, hR.w12.o⟩⟩
    refine EachOf.cons [9] rfl (by kernel_rfl) ?_ ?_
    ·rintro L A W ⟨v, rfl, hR⟩ hi hw K hK
     have hk : L 11 = false := hR.w11.not hi rfl
     have e9 := hR.f9 (hw 9 (by simp))
     simp only [e9]
     clear e9
     have hkw11 : L 11 = false := hR.w11.not hi rfl
     have hb : Below W.heap.size W (W.alloc _) := (Below.refl _ _).alloc (Nat.le_refl _) (Obj.cells #[.int .i64 s3] 3)
     go_simp
     refine hK.out _ _ ?_
     exact ⟨(fun jz => if jz = 30 then .int .i64 s3 else if jz = 31 then .slice (some ⟨W.heap.size, 0, none⟩) 1 1 else v jz), rfl, ⟨(fun _ => below_on (hR.st hk) hb), hR.f0.k, hR.f1.k, hR.f2.k, hR.x3.keepM rfl (fun h hx => by obtain ⟨B, e, r⟩ := h (upd_false hx); exact ⟨B, e, r.on hb⟩), hR.f4.k, hR.f5.k, hR.f6.k, hR.f7.k, hR.f8.k, (fun _ => rfl), (fun _ _ => ⟨W.heap.size, rfl, SlR.new _ _ _⟩), (fun h => absurd (upd_back h rfl) (by simp [hk])), (fun h => absurd (hR.w12 (upd_back h (by decide)) 11 (by simp)) (by simp [hkw11])), (fun h => hR.i3 (upd_false h)), hR.w2.o, hR.w3.o, hR.w4.o, hR.w5.o, hR.w7.o, hR.w8.o, hR.w9.o, (fun _ j hj => upd_on (hw j hj)), hR.w11.o, hR.w12.o⟩⟩
    refine EachOf.cons [0, 10] rfl (by kernel_rfl) ?_ ?_
    ·rintro L A W ⟨v, rfl, hR⟩ hi hw K hK
     have hk : L 11 = false := hi
     have e0 := hR.f0 (hw 0 (by simp))
     simp only [e0]
     clear e0
     obtain ⟨B10, e10, hB10⟩ := hR.x10 (hw 10 (by simp)) hk
     simp only [e10]
     have hkw11 : L 11 = false := hi
     have hb := hR.st hi
     have ho := own_only LO.out (Only.of_below (S := fun _ => False) hb) (fun _ _ q => q)
     simp only [List.getElem_toArray, List.getElem_cons_succ, List.getElem_cons_zero]
     rw [if_pos (show Region.wanted _ _ = true by rfl)]
     refine wp_append_lies W _ _ 22 (by rfl) w.heap.size 3 i0 (.int .i64 0) 1 8 Tryz.underlying22 HI.out.1 HI.out.2.1 HI.out.2.2.1 HI.out.2.2.2 rfl (by decide) (.slice pa (i + 1) pc) (i + 1) _ (by rfl) ho ⟨B10, 0, none⟩ 1 1 [.int .i64 s3] (by rfl) rfl (SlR.news hB10) (by intro u hu; simp at hu; subst hu; rfl) (by omega) (by unfold maxLen; omega) (by omega) (Nat.le_trans LB.out hb.size) _ rfl ?_
     intro g cap w1 hown hgrow hat hlt
     refine hK.out _ _ ?_
     exact ⟨(fun jz => if jz = 21 then .slice pa (i + 1) pc else if jz = 31 then .slice (some ⟨B10, 0, none⟩) 1 1 else if jz = 32 then .slice (some ⟨g, 0, none⟩) (i + 1 + 1) cap else v jz), rfl, ⟨(fun h => by simp [upd_self] at h), (fun _ => rfl), hR.f1.k, hR.f2.k, (fun _ h => by simp [upd_self] at h), hR.f4.k, hR.f5.k, hR.f6.k, hR.f7.k, hR.f8.k, hR.f9.k, (fun _ h => by simp [upd_self] at h), (fun _ => AppW.make hb hgrow hown hat hlt), (fun h => absurd (hR.w12 (upd_back h (by decide)) 11 (by simp)) (by simp [hkw11])), (fun h => hR.i3 (upd_false h)), hR.w2.o, hR.w3.o, hR.w4.o, hR.w5.o, hR.w7.o, hR.w8.o, hR.w9.o, hR.w10.o, (fun _ j hj => upd_on (hw j hj)), hR.w12.o⟩⟩
    refine EachOf.cons [11] rfl (by kernel_rfl) ?_ ?_
    ·rintro L A W ⟨v, rfl, hR⟩ hi hw K hK
     go_simp
     refine hK.out _ _ ?_
     exact ⟨(fun jz => if jz = 3 then v 32 else v jz), rfl, ⟨(fun h => hR.st (upd_false h)), hR.f0.k, hR.f1.k, hR.f2.k, hR.x3.keepM rfl (fun h hx => h (upd_false hx)), hR.f4.k, hR.f5.k, hR.f6.k, hR.f7.k, hR.f8.k, hR.f9.k, hR.x10.keepM rfl (fun h hx => h (upd_false hx)), hR.x11.k, (fun _ => rfl), (fun h => by simp [upd_self] at h), hR.w2.o, hR.w3.o, hR.w4.o, hR.w5.o, hR.w7.o, hR.w8.o, hR.w9.o, hR.w10.o, hR.w11.o, (fun _ j hj => upd_on (hw j hj))⟩⟩
    exact EachOf.nil
   rintro L A W ⟨v, rfl, hR⟩ hL
   have hA := hR.x11 (hL 11 (by simp))
   have e12 := hR.f12 (hL 12 (by simp))
   obtain ⟨gq, cap, hzz, hcase, hl⟩ := hA.form
   rw [hzz] at hA e12
   simp only [e12]
   have hown := hA.own
   rw [fac_list p i s3 HS3.out] at hown
   have hbW : Below w.heap.size w W := (below_on S.out.1 HB2.out).trans (hA.only.below LB.out (fun q hq => (LO.out.lt q hq).1))
   have T : Hid (Below w.heap.size w W ∧ W.ownsRow w.heap.size 3 1 (.slice (some ⟨gq, 0, none⟩) (i + 1 + 1) cap) (i + 1 + 1) ((List.range (i + 1 + 1)).map fun l => Value.int .i64 (facP p l))) := ⟨hbW, hown⟩
   clear hA e12 hcase hl hbW hown hzz S LO LB HB2 CS2 CS1 LC LR hR hL
   go_wp2_with fail
   rw [← er]
   go_roundg (p.m - (i + 1))
   case measure => omega
   case rel => exact ⟨i + 1, rfl, rfl, by omega, T⟩
  ·have e : i = p.m := by omega
   subst e
   have LO := Lib.hid S.out.2
   have LB := Lib.hid S.out.1
   clear S hat
   obtain ⟨g, cap, cur, hv, _⟩ : ∃ g cap cur, Value.slice pa (p.m + 1) pc = .slice (some ⟨g, 0, none⟩) (p.m + 1) cap ∧ cur = (0 : Nat) := by
    rcases LO.out.2 with ⟨h1, h2⟩ | ⟨g, cap, cur, hv, _⟩
    ·omega
    ·exact ⟨g, cap, 0, hv, rfl⟩
   injection hv with e1 e2 e3
   subst e1
   subst e3
   have HC : Hid (∀ j, j < p.m + 1 → W1.cell? ⟨g, j, none⟩ = some (.int .i64 (facP p j))) := fun j hj => by
    rw [LO.out.cellAt j (by omega)]
    simp [hj]
   have HFB : Hid (∀ l, l < p.m + 1 → 1 ≤ facP p l ∧ facP p l ≤ 2147483648) := facP_bd HV.out
   have ML := max_list (facP p) (p.m + 1) (by omega)
   have CM : Hid (Calls Tryz.prog 83 #[.slice (some ⟨g, 0, none⟩) (p.m + 1) pc] W1 fun e w' => e = .returned (.int .i64 (Lib.maxOf ((List.range (p.m + 1)).map (facP p)))) ∧ w' = W1) := by
    have h := Tryz.slices_Max_int g 0 (p.m + 1) pc ((List.range (p.m + 1)).map (facP p)) W1 (by omega) (by simp) (by omega) (fun j hj => by
     rw [show 0 + j = j by omega, HC.out j (by simpa using hj)]
     have hj' : j < p.m + 1 := by simpa using hj
     simp [List.getD, hj'])
    rwa [List.take_of_length_le (by simp)] at h
   obtain ⟨M, hM⟩ : ∃ x, Lib.maxOf ((List.range (p.m + 1)).map (facP p)) = x := ⟨_, rfl⟩
   rw [hM] at CM ML
   have HML := Lib.hid ML
   have hMb : 1 ≤ M ∧ M ≤ 2147483648 := by
    obtain ⟨l, h1, h2⟩ := ML.2
    rw [h2]; exact HFB.out l h1
   clear ML hM LO
   go_wp2_with fail
   go_loopg [36, 6] (p.m + 1) (fun gg s36 s6 wx => ∃ j : Nat, s36 = .int .i64 j ∧ s6 = .int .i64 (prodN j (facP p)) ∧ gg = p.m + 1 - j ∧ j ≤ p.m + 1 ∧ prodN j (facP p) ≤ 17592186044416 ∧ wx = W1)
   case atStart => exact ⟨0, rfl, rfl, rfl, Nat.zero_le _, by show (1 : Int) ≤ _; omega, rfl⟩
   case round =>
    obtain ⟨j, rfl, rfl, rfl, hj, hle, rfl⟩ := hrel
    have hpos := prod_pos HFB.out j hj
    by_cases hlt2 : j < p.m + 1
    ·have wk : IntKind.i64.wrap ((j : Int) + 1) = ((j + 1 : Nat) : Int) := by rw [IntWalk.i64_in _ (by omega)]; omega
     have p1 := HC.out j hlt2
     have b2 := HFB.out j hlt2
     have hs : prodN (j + 1) (facP p) = prodN j (facP p) * facP p j := rfl
     have HPM := Lib.hid (prod_mono HFB.out (j + 1) (by omega))
     obtain ⟨x, hx⟩ : ∃ x, facP p j = x := ⟨_, rfl⟩
     obtain ⟨y, hy⟩ : ∃ y, prodN j (facP p) = y := ⟨_, rfl⟩
     rw [hx] at p1 b2
     rw [hy] at hpos hle
     rw [hx, hy] at hs
     rw [hy]
     have HS := Lib.hid (And.intro hs (And.intro hx hy))
     clear hs hx hy
     obtain ⟨q, hq⟩ : ∃ q, (17592186044416 : Int) / x = q := ⟨_, rfl⟩
     have wd : IntKind.i64.wrap ((17592186044416 : Int).tdiv x) = q := by rw [IntWalk.i64_quo _ _ (by omega), hq]
     have hqi : y ≤ q ↔ y * x ≤ 17592186044416 := by rw [← hq]; exact Int.le_ediv_iff_mul_le (by omega)
     have hx0 : x ≠ 0 := by omega
     by_cases hgt : q < y
     ·have hv0 : v = false := by
       cases v
       ·rfl
       ·have h1 := (HFT.out.1 rfl).1
        have h2 := HPM.out
        rw [HS.out.1] at h2
        omega
      go_wp2_with fail
      go_ret
      exact ⟨by rw [hv0]; rfl, LB.out⟩
     ·have hm : y * x ≤ 17592186044416 := hqi.1 (by omega)
      obtain ⟨z, hz⟩ : ∃ z, y * x = z := ⟨_, rfl⟩
      have hzp : 1 ≤ z := by rw [← hz]; have := Int.mul_le_mul (show (1 : Int) ≤ y by omega) b2.1 (by omega) (by omega); omega
      rw [hz] at hm
      have wm : IntKind.i64.wrap (y * x) = z := by rw [hz]; exact IntWalk.i64_in _ (by omega)
      have HZ := Lib.hid hz
      clear hz hqi
      go_wp2_with fail
      go_roundg (p.m + 1 - (j + 1))
      case measure => omega
      case rel => exact ⟨j + 1, rfl, by rw [HS.out.1, HZ.out], rfl, by omega, by rw [HS.out.1, HZ.out]; exact hm, rfl⟩
    ·have e : j = p.m + 1 := by omega
     subst e
     obtain ⟨y, hy⟩ : ∃ y, prodN (p.m + 1) (facP p) = y := ⟨_, rfl⟩
     rw [hy]
     rw [hy] at hle hpos
     obtain ⟨q, hq⟩ : ∃ q, (144115188075855872 : Int) / M = q := ⟨_, rfl⟩
     have wd : IntKind.i64.wrap ((144115188075855872 : Int).tdiv M) = q := by rw [IntWalk.i64_quo _ _ (by omega), hq]
     have hqi : y ≤ q ↔ y * M ≤ 144115188075855872 := by rw [← hq]; exact Int.le_ediv_iff_mul_le (by omega)
     have hM0 : M ≠ 0 := by omega
     have hvv : v = decide (y ≤ q) := by
      have h1 : FitP p ↔ y ≤ q := by
       rw [hqi]
       constructor
       ·intro h
        obtain ⟨l, h1, h2⟩ := HML.out.2
        have := h.2 l h1
        rw [← h2, hy] at this
        exact this
       ·intro h
        refine ⟨by rw [hy]; exact hle, fun l hl => ?_⟩
        rw [hy]
        exact Int.le_trans (Int.mul_le_mul_of_nonneg_left (HML.out.1 l hl) (by omega)) h
      have h2 := HFT.out
      by_cases h3 : y ≤ q
      ·rw [decide_eq_true h3]; exact h2.2 (h1.2 h3)
      ·rw [decide_eq_false h3]
       cases v
       ·rfl
       ·exact absurd (h1.1 (h2.1 rfl)) h3
     have HVV := Lib.hid hvv
     clear hvv hqi hq
     go_wp2_with fail
     (with_reducible refine ((CM.out).mono ?_))
     rintro e w2 ⟨rfl, rfl⟩
     go_wp2_with fail
     go_ret
     exact ⟨by rw [HVV.out]; rfl, LB.out⟩
end Go.Proofs.YtggpdhdbeokkcaaGreat
