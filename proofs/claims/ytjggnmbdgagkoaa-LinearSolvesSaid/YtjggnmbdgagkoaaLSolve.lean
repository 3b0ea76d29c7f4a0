/- Layer 4: lists of fractions that are filled. Layer 4: solutions. -/
import Derived.Test.YtjggnmbdgagkoaaLValid
import Derived.Test.YtjggnmbdgagkoaaLM
import Derived.Test.YtjggnmbdgagkoaaRSumL
namespace Go.Proofs.Ytjggnmbdgagkoaa
set_option linter.unusedVariables false
open Go.RowKit Go.Shelf

/-- A list of fractions in a block of its own. -/
structure FrX (W : World) (xb n : Nat) (F : Nat → Int × Int) : Prop where
  hb : xb < W.heap.size
  c0 : ∀ l, l < n → W.cell? ⟨xb, l * 2, none⟩ = some (.int .i64 (F l).1)
  c1 : ∀ l, l < n → W.cell? ⟨xb, l * 2 + 1, none⟩ = some (.int .i64 (F l).2)
  f0 : ∀ l, l < n → W.frozen? ⟨xb, l * 2, none⟩ = false
  f1 : ∀ l, l < n → W.frozen? ⟨xb, l * 2 + 1, none⟩ = false
theorem FrX.on {W W2 : World} {xb n : Nat} {F : Nat → Int × Int} (h : FrX W xb n F) (hb : Below W.heap.size W W2) : FrX W2 xb n F :=
  ⟨Nat.lt_of_lt_of_le h.hb hb.size, fun l hl => (hb.cell (p := ⟨xb, l * 2, none⟩) h.hb).trans (h.c0 l hl), fun l hl => (hb.cell (p := ⟨xb, l * 2 + 1, none⟩) h.hb).trans (h.c1 l hl), fun l hl => (hb.frozen (p := ⟨xb, l * 2, none⟩) h.hb).trans (h.f0 l hl), fun l hl => (hb.frozen (p := ⟨xb, l * 2 + 1, none⟩) h.hb).trans (h.f1 l hl)⟩
def updF (F : Nat → Int × Int) (i : Nat) (v : Int × Int) : Nat → Int × Int := fun l => if l = i then v else F l
theorem FrX.set {W : World} {xb n : Nat} {F : Nat → Int × Int} (h : FrX W xb n F) (i : Nat) (hi : i < n) (a d : Int) :
    FrX ((W.setCell ⟨xb, i * 2, none⟩ (.int .i64 a)).setCell ⟨xb, i * 2 + 1, none⟩ (.int .i64 d)) xb n (updF F i (a, d)) := by
  have s0 : ((W.setCell ⟨xb, i * 2, none⟩ (.int .i64 a)).cell? ⟨xb, i * 2 + 1, none⟩).isSome = true := by
    rw [World.cell?_setCell_other _ _ _ _ (adr_ne (b := xb) (i := i * 2) (j := i * 2 + 1) (by omega)), h.c1 i hi]; rfl
  refine ⟨by simpa using h.hb, fun l hl => ?_, fun l hl => ?_, fun l hl => by simpa using h.f0 l hl, fun l hl => by simpa using h.f1 l hl⟩
  · rw [World.cell?_setCell_other _ _ _ _ (adr_ne (b := xb) (i := i * 2 + 1) (j := l * 2) (by omega))]
    unfold updF
    by_cases e : l = i
    · subst e
      rw [if_pos rfl]
      exact World.cell?_setCell_same' _ _ _ (by rw [h.c0 l hl]; rfl)
    · rw [if_neg e, World.cell?_setCell_other _ _ _ _ (adr_ne (b := xb) (i := i * 2) (j := l * 2) (by omega))]
      exact h.c0 l hl
  · unfold updF
    by_cases e : l = i
    · subst e
      rw [if_pos rfl]
      exact World.cell?_setCell_same' _ _ _ s0
    · rw [if_neg e, World.cell?_setCell_other _ _ _ _ (adr_ne (b := xb) (i := i * 2 + 1) (j := l * 2 + 1) (by omega)), World.cell?_setCell_other _ _ _ _ (adr_ne (b := xb) (i := i * 2) (j := l * 2 + 1) (by omega))]
      exact h.c1 l hl
theorem FrX.congr {W : World} {xb n : Nat} {F F2 : Nat → Int × Int} (h : FrX W xb n F) (e : ∀ l, l < n → F2 l = F l) : FrX W xb n F2 :=
  ⟨h.hb, fun l hl => by rw [e l hl]; exact h.c0 l hl, fun l hl => by rw [e l hl]; exact h.c1 l hl, h.f0, h.f1⟩
theorem FrX.frs {W : World} {xb n : Nat} {F : Nat → Int × Int} (h : FrX W xb n F) : Frs W xb 0 ((List.range n).map F) := fun k hk => by
  have hk' : k < n := by simpa using hk
  simp only [Nat.zero_add, List.getElem_map, List.getElem_range]
  exact ⟨h.c0 k hk', h.c1 k hk'⟩
theorem made_zero2 (n j : Nat) (h : j < n * 2) : (madeCells #[Value.int .i64 0, Value.int .i64 0] (n * 2)).toList[j]? = some (Value.int .i64 0) := by
  have hm : j % 2 = 0 ∨ j % 2 = 1 := by omega
  rcases hm with hm | hm <;> simp [madeCells, h, hm]
theorem FrX.made {W : World} {g n : Nat} {base : Nat} {t : TypeId} (ho : W.ownsRow base t 2 (.slice (some ⟨g, 0, none⟩) n n) n (madeCells (Value.agg #[.int .i64 0, .int .i64 0]).cells (n * 2)).toList) (hn : 0 < n) : FrX W g n (fun _ => (0, 0)) := by
  have e : (Value.agg #[.int .i64 0, .int .i64 0]).cells = #[Value.int .i64 0, Value.int .i64 0] := by rfl
  rw [e] at ho
  have hb : g < W.heap.size := (ho.lt g rfl).2
  have hc : ∀ j, j < n * 2 → W.cell? ⟨g, j, none⟩ = some (.int .i64 0) := fun j hj => by
    have := ho.cells (g := g) rfl j (.int .i64 0) (made_zero2 n j hj)
    rwa [show (⟨g, 0, none⟩ : Addr).add j = ⟨g, j, none⟩ by unfold Addr.add; split <;> simp_all] at this
  exact ⟨hb, fun l hl => hc _ (by omega), fun l hl => hc _ (by omega), fun l hl => own_frozen ho rfl _, fun l hl => own_frozen ho rfl _⟩

/-- The share of a number. -/
def shF (a D : Int) : Int × Int := ((makeT a D).1, (makeT a D).2.1)
theorem shF_eq (a D : Int) : makeT a D = ((shF a D).1, (shF a D).2, (makeT a D).2.2) := rfl

theorem cont_pv (B k : Nat) (pv : Value) (p : Nat → Nat) (x : Nat) (w : World) (ho : w.ownsRow B 3 1 pv k ((List.range k).map fun l => Value.int .i64 (p l))) (hk : k ≤ 1000) :
    Calls Try.prog 39 #[pv, .int .i64 (x : Int)] w fun e w' => e = .returned (.bool (decide (∃ l, l < k ∧ p l = x))) ∧ w' = w := by
  have hcell := fun g => ho.cells (g := g)
  rcases ho.2 with ⟨rfl, rfl⟩ | ⟨g, cap, cur, rfl, _, _, _⟩
  · refine (Try.slices_Contains_int_empty none 0 (x : Int) w).mono ?_
    rintro e w' ⟨rfl, rfl⟩
    exact ⟨by simp, rfl⟩
  · refine (Try.slices_Contains_int g 0 k cap ((List.range k).map fun l => (p l : Int)) (x : Int) w (by simp) (by omega) (fun j hj => ?_)).mono ?_
    · have hj' : j < k := by simpa using hj
      have := hcell g rfl j (.int .i64 (p j)) (by simp [hj'])
      rw [show (⟨g, 0, none⟩ : Addr).add j = ⟨g, j, none⟩ by unfold Addr.add; split <;> simp_all] at this
      rw [Nat.zero_add, this]
      simp [List.getD, hj']
    · rintro e w' ⟨rfl, rfl⟩
      refine ⟨?_, rfl⟩
      congr 2
      rw [List.take_of_length_le (by simp), Bool.eq_iff_iff, decide_eq_true_eq, List.contains_iff_mem, List.mem_map]
      constructor
      · rintro ⟨l, hl, e⟩
        exact ⟨l, by simpa using hl, by omega⟩
      · rintro ⟨l, hl, e⟩
        exact ⟨l, by simpa using hl, by omega⟩

def adB (a : Option Addr) : Nat := match a with | some x => x.block | none => 0
def adO (a : Option Addr) : Nat := match a with | some x => x.off | none => 0
theorem AMat.mat {W : World} {ma : Option Addr} {R : Nat} {Ra : Nat → Option Addr} {Ln Ka : Nat → Nat} {Z : Nat → Nat → Int} (h : AMat W ma R Ra Ln Ka Z) (hv : vMP R Ln Z) :
    ∃ mb mo, ma = some ⟨mb, mo, none⟩ ∧ Mat W mb mo R (Ln 0) (fun i => adB (Ra i)) (fun i => adO (Ra i)) Ka Z := by
  obtain ⟨r0, r1, l0, l1, hr⟩ := hv
  obtain ⟨mb, mo, e, hb, ht⟩ := h.top (by omega)
  have hx : ∀ i, i < R → Ra i = some ⟨adB (Ra i), adO (Ra i), none⟩ ∧ adB (Ra i) < W.heap.size ∧ ∀ j, j < Ln 0 → W.cell? ⟨adB (Ra i), adO (Ra i) + j, none⟩ = some (.int .i64 (Z i j)) := fun i hi => by
    obtain ⟨g, o, h1, h2, h3⟩ := h.row i hi (by rw [(hr i hi).1]; exact l0)
    rw [h1]
    exact ⟨rfl, h2, fun j hj => h3 j (by rw [(hr i hi).1]; exact hj)⟩
  exact ⟨mb, mo, e, hb, fun i hi => by rw [ht i hi, (hr i hi).1, ← (hx i hi).1], fun i hi => (hx i hi).2.1, fun i j hi hj => (hx i hi).2.2 j hj⟩

end Go.Proofs.Ytjggnmbdgagkoaa

namespace Go.Proofs.Ytjggnmbdgagkoaa
set_option linter.unusedVariables false
open Go.RowKit Go.Shelf

section
variable (ma : Option Addr) (R mc : Nat) (Ra : Nat → Option Addr) (Ln Ka : Nat → Nat) (Z : Nat → Nat → Int) (ra : Option Addr) (n2 c2 : Nat) (f : Nat → Int) (w : World)

theorem Solve_bad (hM : AMat w ma R Ra Ln Ka Z) (hR : R ≤ 9223372036854775807) (hv : ¬ vMP R Ln Z) :
    Calls Try.prog 21 #[.slice ma R mc, .slice ra n2 c2] w fun e w' => e = .returned (.tuple #[.slice none 0 0, .int .i64 1]) ∧ Below w.heap.size w w' := by
  have CV := Lib.hid (lValid_any ma R mc Ra Ln Ka Z w hM hR)
  rw [vM_no hv] at CV
  clear hM hv
  go_enter Try.func21, Try.ntmps21
  go_wp2_with fail
  (with_reducible refine ((CV.out).mono ?_))
  rintro e w1 ⟨rfl, hb⟩
  go_wp2_with fail
  go_returns
  exact ⟨rfl, hb⟩

theorem Solve_size (hM : AMat w ma R Ra Ln Ka Z) (hv : vMP R Ln Z) (hne : n2 ≠ R) :
    Calls Try.prog 21 #[.slice ma R mc, .slice ra n2 c2] w fun e w' => e = .returned (.tuple #[.slice none 0 0, .int .i64 3]) ∧ Below w.heap.size w w' := by
  have CV := Lib.hid (lValid_any ma R mc Ra Ln Ka Z w hM (by have := hv.2.1; omega))
  rw [vM_true.2 hv] at CV
  clear hM hv
  have t1 : ¬ ((n2 : Int) = (R : Int)) := by omega
  go_enter Try.func21, Try.ntmps21
  go_wp2_with fail
  (with_reducible refine ((CV.out).mono ?_))
  rintro e w1 ⟨rfl, hb⟩
  go_wp2_with fail
  go_returns
  exact ⟨rfl, hb⟩

theorem Solve_range (hM : AMat w ma R Ra Ln Ka Z) (hv : vMP R Ln Z) (hr : IRow w ra R f) (hw : wB R f 67108864 = false) :
    Calls Try.prog 21 #[.slice ma R mc, .slice ra R c2] w fun e w' => e = .returned (.tuple #[.slice none 0 0, .int .i64 2]) ∧ Below w.heap.size w w' := by
  have CV := Lib.hid (lValid_any ma R mc Ra Ln Ka Z w hM (by have := hv.2.1; omega))
  rw [vM_true.2 hv] at CV
  have CW := fun W h => Lib.hid (within_any ra R c2 f 67108864 W h (by omega) (by omega) (by have := hv.2.1; omega))
  simp only [hw] at CW
  have HR := Lib.hid hr
  clear hM hv hr hw
  go_enter Try.func21, Try.ntmps21
  go_wp2_with fail
  (with_reducible refine ((CV.out).mono ?_))
  rintro e w1 ⟨rfl, hb⟩
  go_wp2_with fail
  (with_reducible refine (((CW _ (HR.out.on hb)).out).mono ?_))
  rintro e w2 ⟨rfl, hb2⟩
  go_wp2_with fail
  go_returns
  exact ⟨rfl, below_on hb hb2⟩

/-- An elimination that is read alone. -/
structure DSt (B0 : Nat) (W : World) (eb b R n Cb : Nat) (G C : Nat → Nat) (E : Nat → Nat → Int) (pv : Value) (k : Nat) (p : Nat → Nat) (D : Int) : Prop where
  e : EBlk W eb (.slice (some ⟨b, 0, none⟩) R Cb) pv (.int .i64 D)
  g : Grid B0 W b R n G C E
  o : W.ownsRow B0 3 1 pv k ((List.range k).map fun l => Value.int .i64 (p l))
theorem DSt.on {B0 : Nat} {W W2 : World} {eb b R n Cb k : Nat} {G C : Nat → Nat} {E : Nat → Nat → Int} {pv : Value} {p : Nat → Nat} {D : Int} (h : DSt B0 W eb b R n Cb G C E pv k p D) (hb : Below W.heap.size W W2) : DSt B0 W2 eb b R n Cb G C E pv k p D :=
  ⟨h.e.on hb, h.g.on hb, own_only h.o (Only.of_below (S := fun _ => False) hb) (fun _ _ q => q)⟩
theorem DSt.new {B0 : Nat} {W : World} {b R n Cb k : Nat} {G C : Nat → Nat} {E : Nat → Nat → Int} {pv : Value} {p : Nat → Nat} {D : Int} (g : Grid B0 W b R n G C E) (o : W.ownsRow B0 3 1 pv k ((List.range k).map fun l => Value.int .i64 (p l))) (t : TypeId) :
    DSt B0 (W.alloc (Obj.cells #[.slice (some ⟨b, 0, none⟩) R Cb, pv, .int .i64 D] t)) W.heap.size b R n Cb G C E pv k p D := by
  have hb : Below W.heap.size W (W.alloc (Obj.cells #[.slice (some ⟨b, 0, none⟩) R Cb, pv, .int .i64 D] t)) := (Below.refl _ _).alloc (Nat.le_refl _) _
  exact ⟨⟨by simp, by simp [go_sem], by simp [go_sem], by simp [go_sem], by simp [go_sem], by simp [go_sem], by simp [go_sem]⟩, g.on hb, own_only o (Only.of_below (S := fun _ => False) hb) (fun _ _ q => q)⟩
theorem DSt.piv {B0 : Nat} {W : World} {eb b R n Cb k : Nat} {G C : Nat → Nat} {E : Nat → Nat → Int} {pa : Option Addr} {pc : Nat} {p : Nat → Nat} {D : Int} (h : DSt B0 W eb b R n Cb G C E (.slice pa k pc) k p D) (hk : 0 < k) :
    ∃ g, pa = some ⟨g, 0, none⟩ ∧ g < W.heap.size ∧ ∀ l, l < k → W.cell? ⟨g, l, none⟩ = some (.int .i64 (p l)) := by
  rcases h.o.2 with ⟨_, e⟩ | ⟨g, cap, cur, hv, _, hg, _⟩
  · omega
  · cases hv
    refine ⟨g, rfl, (Array.getElem?_eq_some_iff.1 hg).1, fun l hl => ?_⟩
    have := h.o.cells (g := g) rfl l (.int .i64 (p l)) (by simp [hl])
    rwa [show (⟨g, 0, none⟩ : Addr).add l = ⟨g, l, none⟩ by unfold Addr.add; split <;> simp_all] at this

/-- What comes out where all arguments are right. -/
def SolP (R n : Nat) (M : Nat → Nat → Int) (w' : World) (e : Ending) : Prop :=
  ∃ k p E D, FinE R (n + 1) M k p E D ∧
    (((∃ l, l < k ∧ p l = n) ∧ e = .returned (.tuple #[.slice none 0 0, .int .i64 22])) ∨
     ((¬ ∃ l, l < k ∧ p l = n) ∧ k < n ∧ e = .returned (.tuple #[.slice none 0 0, .int .i64 21])) ∨
     ((¬ ∃ l, l < k ∧ p l = n) ∧ k = n ∧ ∃ xb, e = .returned (.tuple #[.slice (some ⟨xb, 0, none⟩) n n, .int .i64 0]) ∧ FrX w' xb n (fun l => shF (E l n) D)))

theorem full_piv {n k : Nat} {p : Nat → Nat} (up : ∀ l l', l < l' → l' < k → p l < p l') (lt : ∀ l, l < k → p l < n) (e : k = n) : ∀ l, l < n → p l = l := by
  subst e
  have h1 := up_ge up
  have h2 : ∀ d l, l + d + 1 = k → p l ≤ l := by
    intro d
    induction d with
    | zero => intro l hl; have := lt l (by omega); omega
    | succ d ih => intro l hl; have := ih (l + 1) (by omega); have := up l (l + 1) (by omega) (by omega); omega
  intro l hl
  have := h1 l hl
  have := h2 (k - l - 1) l (by omega)
  omega

set_option maxRecDepth 100000 in
set_option maxHeartbeats 16000000 in
theorem Solve_ok (n : Nat) (hn : Ln 0 = n) (hM : AMat w ma R Ra Ln Ka Z) (hv : vMP R Ln Z) (hr : IRow w ra R f) (hw : wB R f 67108864 = true) (hc2 : R ≤ c2) (hc3 : c2 ≤ 9223372036854775807) :
    Calls Try.prog 21 #[.slice ma R mc, .slice ra R c2] w fun e w' => Below w.heap.size w w' ∧ SolP R n (extE n Z f) w' e := by
  have CV := Lib.hid (lValid_any ma R mc Ra Ln Ka Z w hM (by have := hv.2.1; omega))
  rw [vM_true.2 hv] at CV
  have CW := fun W h => Lib.hid (within_any ra R c2 f 67108864 W h (by omega) (by omega) (by have := hv.2.1; omega))
  simp only [hw] at CW
  have hwb : ∀ j, j < R → -67108864 ≤ f j ∧ f j ≤ 67108864 := by unfold wB at hw; exact of_decide_eq_true hw
  have hsm : ∀ i j, i < R → j < n + 1 → - cB n j ≤ extE n Z f i j ∧ extE n Z f i j ≤ cB n j := fun i j hi hj => by
    unfold extE catF cB
    by_cases e : j = n
    · rw [if_pos e, if_pos e]; exact hwb i hi
    · rw [if_neg e, if_neg e]; exact (hv.2.2.2.2 i hi).2 j (by rw [(hv.2.2.2.2 i hi).1, hn]; omega)
  have hR0 : 0 < R := hv.1
  have hR6 : R ≤ 6 := hv.2.1
  have hn0 : 0 < n := by have := hv.2.2.1; omega
  have hn12 : n ≤ 12 := by have := hv.2.2.2.1; omega
  have HR := Lib.hid hr
  obtain ⟨rg, ro, hra, hrg, hrc⟩ := hr hR0
  obtain ⟨mb, mo, hma, hMt⟩ := hM.mat hv
  rw [hn] at hMt
  have HM := Lib.hid hMt
  have HF := Lib.hid (And.intro hrg hrc)
  have HS := Lib.hid hsm
  clear hM hv hr hw hrg hrc hMt hwb hsm hn
  subst hma
  subst hra
  obtain ⟨i0, hi0, hz0, hz1, hz2⟩ := info_parts (show (Try.prog.info? 45).map (fun i => (i.zero, i.size, i.bytes)) = some (some (Value.agg #[Value.int IntKind.i64 0, Value.int IntKind.i64 0]), 2, 16) by kernel_rfl)
  go_enter Try.func21, Try.ntmps21
  go_wp2_with fail
  (with_reducible refine ((CV.out).mono ?_))
  rintro e w1 ⟨rfl, hb⟩
  have HB1 := Lib.hid hb
  clear CV hb
  go_wp2_with fail
  (with_reducible refine (((CW _ (HR.out.on HB1.out)).out).mono ?_))
  rintro e w2 ⟨rfl, hb2⟩
  have HB2 := Lib.hid (below_on HB1.out hb2)
  clear CW hb2 HB1
  have p0 := (HM.out.on HB2.out).top 0 hR0
  rw [Nat.add_zero] at p0
  have CX := Lib.hid (extended_any mb mo mc R n rg ro c2 _ _ _ Z f w2 (HM.out.on HB2.out) (Nat.lt_of_lt_of_le HF.out.1 HB2.out.size) (fun j hj => (HB2.out.cell (p := ⟨rg, ro + j, none⟩) HF.out.1).trans (HF.out.2 j hj)) (by omega) hn0 (by omega) hc2 hc3)
  go_wp2_with fail
  (with_reducible refine ((CX.out).mono ?_))
  rintro e w3 ⟨ab, G, C, rfl, hb3, hM3⟩
  have HB3 := Lib.hid (below_on HB2.out hb3)
  have CE := Lib.hid (eliminate_any ab 0 R R (n + 1) n G (fun _ => 0) C (extE n Z f) w3 hM3 hR0 (by omega) (by omega) (by omega) (.inl hR6) HS.out)
  clear CX hb3 HB2 p0 hM3
  go_wp2_with fail
  (with_reducible refine ((CE.out).mono ?_))
  rintro e w4 ⟨hb4, b, Cb, G4, C4, U, E, pv, k, p, D, rfl, hCb, hG, hO, hI⟩
  have HB4 := Lib.hid (below_on HB3.out hb4)
  have HI := Lib.hid hI.fin
  have HG := Lib.hid hG
  have HO := Lib.hid hO
  clear CE HB3 hb4 hI hG hO
  obtain ⟨pa, pc, hpv⟩ := own_form HO.out
  subst hpv
  go_upto_region 9 with fail
  have hb5 : Below w4.heap.size w4 (w4.alloc (Obj.cells #[Value.slice (some ⟨b, 0, none⟩) R Cb, Value.slice pa k pc, Value.int IntKind.i64 D] 68)) := (Below.refl _ _).alloc (Nat.le_refl _) _
  have D5 := DSt.new (Cb := Cb) (D := D) HG.out HO.out 68
  obtain ⟨W5, hW5⟩ : ∃ W, W = w4.alloc (Obj.cells #[Value.slice (some ⟨b, 0, none⟩) R Cb, Value.slice pa k pc, Value.int IntKind.i64 D] 68) := ⟨_, rfl⟩
  obtain ⟨eb, heb⟩ : ∃ x, x = w4.heap.size := ⟨_, rfl⟩
  rw [← hW5, ← heb] at D5
  rw [← hW5] at hb5
  rw [← hW5, ← heb]
  have HD := Lib.hid D5
  have HB5 := Lib.hid (below_on HB4.out hb5)
  have CC0 := cont_pv w3.heap.size k _ p n W5 D5.o (by have := HI.out.kR; omega)
  obtain ⟨tb, htb⟩ : ∃ x, decide (∃ l, l < k ∧ p l = n) = x := ⟨_, rfl⟩
  rw [htb] at CC0
  have CC := Lib.hid CC0
  have HT := Lib.hid htb
  clear CC0 htb hW5 heb hb5 D5 HG HO HB4
  have kR := HI.out.kR
  have q1 := HD.out.e.c1
  go_wp2_with fail
  (with_reducible refine ((CC.out).mono ?_))
  rintro e W ⟨rfl, rfl⟩
  clear CC
  cases tb
  case true =>
    have HP := Lib.hid (of_decide_eq_true HT.out)
    go_wp2_with fail
    go_returns
    exact ⟨HB5.out, k, p, E, D, HI.out, .inl ⟨HP.out, rfl⟩⟩
  case false =>
    have HP := Lib.hid (of_decide_eq_false HT.out)
    have hlt : ∀ l, l < k → p l < n := fun l hl => by
      have := HI.out.lt l hl
      have : p l ≠ n := fun e => HP.out ⟨l, hl, e⟩
      omega
    have hkn : k ≤ n := by
      have h1 := up_ge HI.out.up
      rcases Nat.lt_or_ge n k with g | g
      · have := h1 n g; have := hlt n g; omega
      · exact g
    have HL := Lib.hid hlt
    clear hlt
    by_cases h : k < n
    · have t1 : ((k : Int) < (n : Int)) := by omega
      go_wp2_with fail
      go_returns
      exact ⟨HB5.out, k, p, E, D, HI.out, .inr (.inl ⟨HP.out, h, rfl⟩)⟩
    · have t1 : ¬ ((k : Int) < (n : Int)) := by omega
      have ekn : k = n := by omega
      have HPL := Lib.hid (full_piv HI.out.up HL.out ekn)
      subst ekn
      obtain ⟨pg, rfl, hpg, hpc⟩ := HD.out.piv hn0
      have HPV : Hid (pg < W.heap.size ∧ ∀ l, l < k → W.cell? ⟨pg, l, none⟩ = some (.int .i64 (l : Nat))) := ⟨hpg, fun l hl => by rw [hpc l hl, HPL.out l hl]⟩
      clear hpg hpc
      go_upto_region 14 with (refine wpList_make_full _ rfl _ _ 35 rfl w.heap.size 45 i0 (Value.agg #[Value.int IntKind.i64 0, Value.int IntKind.i64 0]) 2 Try.underlying35 hi0 hz0 hz1 _ _ _ _ k rfl rfl rfl rfl (by rw [hz2]; omega) (by unfold maxLen; omega) HB5.out.size ?_; intro w1 ho hg)
      have hb6 : Below W.heap.size W w1 := ⟨hg.os, hg.tape, hg.output, hg.size, fun k hk => hg.block k hk (by simp)⟩
      obtain ⟨xb, hxb⟩ : ∃ x, x = W.heap.size := ⟨_, rfl⟩
      have F0 := FrX.made ho hn0
      rw [← hxb] at F0
      rw [← hxb]
      have S0 : Hid (FrX w1 xb k (fun l => if l < 0 then shF (E l k) D else (0, 0)) ∧ Below W.heap.size W w1) := ⟨F0.congr fun l _ => if_neg (by omega), hb6⟩
      have HXB := Lib.hid hxb
      have r1 := (hb6.cell (p := ⟨eb, 1, none⟩) HD.out.e.hb).trans HD.out.e.c1
      clear q1 ho hg hb6 F0 hxb hi0 hz0 hz1 hz2 i0 t1 h
      go_wp2_with fail
      clear r1
      go_loopg [49] k (fun g s49 wx => ∃ i : Nat, s49 = .int .i64 i ∧ g = k - i ∧ i ≤ k ∧ Hid (FrX wx xb k (fun l => if l < i then shF (E l k) D else (0, 0)) ∧ Below W.heap.size W wx))
      case atStart => exact ⟨0, rfl, rfl, Nat.zero_le _, S0⟩
      case round =>
        clear S0
        obtain ⟨i, rfl, rfl, hi, S⟩ := hrel
        rename World => W6
        by_cases hlt : i < k
        · have wk : IntKind.i64.wrap ((i : Int) + 1) = ((i + 1 : Nat) : Int) := by rw [IntWalk.i64_in _ (by omega)]; omega
          have D6 := HD.out.on S.out.2
          have c0 := D6.e.c0
          have cp := (S.out.2.cell (p := ⟨pg, i, none⟩) HPV.out.1).trans (HPV.out.2 i hlt)
          have ct := D6.g.top i (by omega)
          have cc := D6.g.cell i k (by omega) (by omega)
          have hs := HI.out.dE i k (by omega) (by omega)
          have hd := HI.out.dD
          have CS := Lib.hid (share_any eb _ _ D (E i k) _ _ _ W6 D6.e (by omega) (by omega) (by omega) (by omega) (shF_eq (E i k) D))
          clear D6 hs hd
          go_wp2_with fail
          (with_reducible refine ((CS.out).mono ?_))
          rintro e w7 ⟨rfl, hb7⟩
          have F7 := S.out.1.on hb7
          have HB7 := Lib.hid (below_on S.out.2 hb7)
          have HF7 := Lib.hid F7
          clear CS hb7 F7 S c0 cp ct cc
          have x0 := HF7.out.c0 i hlt
          have x1 := HF7.out.c1 i hlt
          have y0 := HF7.out.f0 i hlt
          have y1 := HF7.out.f1 i hlt
          go_wp2_with fail
          have T : Hid (FrX ((w7.setCell ⟨xb, i * 2, none⟩ (.int .i64 (shF (E i k) D).1)).setCell ⟨xb, i * 2 + 1, none⟩ (.int .i64 (shF (E i k) D).2)) xb k (fun l => if l < i + 1 then shF (E l k) D else (0, 0)) ∧ Below W.heap.size W ((w7.setCell ⟨xb, i * 2, none⟩ (.int .i64 (shF (E i k) D).1)).setCell ⟨xb, i * 2 + 1, none⟩ (.int .i64 (shF (E i k) D).2))) :=
            ⟨(HF7.out.set i hlt (shF (E i k) D).1 (shF (E i k) D).2).congr fun l hl => by
              unfold updF
              by_cases e : l = i
              · subst e; rw [if_pos (by omega), if_pos rfl]
              · rw [if_neg e]
                show _ = if l < i then shF (E l k) D else (0, 0)
                by_cases g : l < i
                · rw [if_pos g, if_pos (by omega)]
                · rw [if_neg g, if_neg (by omega)], (HB7.out.setCell (by show W.heap.size ≤ xb; rw [HXB.out]; exact Nat.le_refl _) _).setCell (by show W.heap.size ≤ xb; rw [HXB.out]; exact Nat.le_refl _) _⟩
          clear x0 x1 y0 y1 HF7 HB7
          go_roundg (k - (i + 1))
          case measure => omega
          case rel => exact ⟨i + 1, rfl, rfl, by omega, T⟩
        · have e : i = k := by omega
          subst e
          go_wp2_with fail
          go_returns
          exact ⟨HB5.out.trans (S.out.2.mono HB5.out.size), _, p, E, D, HI.out, .inr (.inr ⟨HP.out, rfl, xb, rfl, S.out.1.congr fun l hl => (if_pos hl).symm⟩)⟩
end

end Go.Proofs.Ytjggnmbdgagkoaa
