/- Layer 4: rank, determinant, null vectors. Layer 4: all null vectors. Layer 4: lists of fractions compared. Layer 4: the examples of the chapter, reckoned. -/
import Derived.Test.YtjggnmbdgagkoaaLSolve
import Derived.Deep.Draws
import Derived.Test.YtjggnmbdgagkoaaLM
import Derived.Test.YtjggnmbdgagkoaaROps2
namespace Go.Proofs.Ytjggnmbdgagkoaa
set_option linter.unusedVariables false
open Go.RowKit Go.Shelf

/-- The null vector of the column c, as far as the first i pivots are laid. -/
def nullA (p : Nat → Nat) (E : Nat → Nat → Int) (D : Int) (c : Nat) : Nat → Nat → Int × Int
  | 0 => fun _ => (0, 1)
  | i + 1 => updF (nullA p E D c i) (p i) (shF (-(E i c)) D)

set_option maxRecDepth 100000 in
set_option maxHeartbeats 16000000 in
theorem null_any (B0 eb b R n Cb k : Nat) (G C : Nat → Nat) (E : Nat → Nat → Int) (pv : Value) (p : Nat → Nat) (D : Int) (c : Nat) (M : Nat → Nat → Int) (w : World) (hD : DSt B0 w eb b R n Cb G C E pv k p D) (hI : FinE R n M k p E D) (hR0 : 0 < R) (hR13 : R ≤ 13) (hn0 : 0 < n) (hn13 : n ≤ 13) (hc : c < n) (hCb : R ≤ Cb) :
    Calls Try.prog 52 #[.pointer (some ⟨eb, 0, none⟩), .int .i64 (c : Nat)] w fun e w' => ∃ xb, e = .returned (.slice (some ⟨xb, 0, none⟩) n n) ∧ w.heap.size ≤ xb ∧ Below w.heap.size w w' ∧ FrX w' xb n (updF (nullA p E D c k) c (1, 1)) := by
  have HD := Lib.hid hD
  have HI := Lib.hid hI
  have kR := hI.kR
  obtain ⟨pa, pc, hpv⟩ := own_form hD.o
  subst hpv
  have q0 := hD.e.c0
  have q1 := hD.g.top 0 hR0
  clear hD hI
  obtain ⟨i0, hi0, hz0, hz1, hz2⟩ := info_parts (show (Try.prog.info? 45).map (fun i => (i.zero, i.size, i.bytes)) = some (some (Value.agg #[Value.int IntKind.i64 0, Value.int IntKind.i64 0]), 2, 16) by kernel_rfl)
  go_enter Try.func52, Try.ntmps52
  go_upto_region 2 with (refine wpList_make_full _ rfl _ _ 35 rfl w.heap.size 45 i0 (Value.agg #[Value.int IntKind.i64 0, Value.int IntKind.i64 0]) 2 Try.underlying35 hi0 hz0 hz1 _ _ _ _ n rfl rfl rfl rfl (by rw [hz2]; omega) (by unfold maxLen; omega) (Nat.le_refl _) ?_; intro w1 ho hg)
  have hb6 : Below w.heap.size w w1 := ⟨hg.os, hg.tape, hg.output, hg.size, fun k hk => hg.block k hk (by simp)⟩
  obtain ⟨xb, hxb⟩ : ∃ x, x = w.heap.size := ⟨_, rfl⟩
  have F0 := FrX.made ho hn0
  rw [← hxb] at F0
  rw [← hxb]
  have S0 : Hid (FrX w1 xb n (fun l => if l < 0 then (0, 1) else (0, 0)) ∧ Below w.heap.size w w1) := ⟨F0.congr fun l _ => if_neg (by omega), hb6⟩
  have HXB := Lib.hid hxb
  clear q0 q1 ho hg hb6 F0 hxb hi0 hz0 hz1 hz2 i0
  go_wp2_with fail
  go_loopg [19] n (fun g s19 wx => ∃ i : Nat, s19 = .int .i64 i ∧ g = n - i ∧ i ≤ n ∧ Hid (FrX wx xb n (fun l => if l < i then (0, 1) else (0, 0)) ∧ Below w.heap.size w wx))
  case atStart => exact ⟨0, rfl, rfl, Nat.zero_le _, S0⟩
  case round =>
    clear S0
    obtain ⟨i, rfl, rfl, hi, S⟩ := hrel
    rename World => W6
    by_cases hlt : i < n
    · have wk : IntKind.i64.wrap ((i : Int) + 1) = ((i + 1 : Nat) : Int) := by rw [IntWalk.i64_in _ (by omega)]; omega
      have x0 := S.out.1.c0 i hlt
      have x1 := S.out.1.c1 i hlt
      have y0 := S.out.1.f0 i hlt
      have y1 := S.out.1.f1 i hlt
      go_wp2_with fail
      have T : Hid (FrX ((W6.setCell ⟨xb, i * 2, none⟩ (.int .i64 0)).setCell ⟨xb, i * 2 + 1, none⟩ (.int .i64 1)) xb n (fun l => if l < i + 1 then (0, 1) else (0, 0)) ∧ Below w.heap.size w ((W6.setCell ⟨xb, i * 2, none⟩ (.int .i64 0)).setCell ⟨xb, i * 2 + 1, none⟩ (.int .i64 1))) :=
        ⟨(S.out.1.set i hlt 0 1).congr fun l hl => by
          unfold updF
          by_cases e : l = i
          · subst e; rw [if_pos (by omega), if_pos rfl]
          · rw [if_neg e]
            show _ = if l < i then ((0 : Int), (1 : Int)) else (0, 0)
            by_cases g : l < i
            · rw [if_pos g, if_pos (by omega)]
            · rw [if_neg g, if_neg (by omega)], (S.out.2.setCell (by show w.heap.size ≤ xb; rw [HXB.out]; exact Nat.le_refl _) _).setCell (by show w.heap.size ≤ xb; rw [HXB.out]; exact Nat.le_refl _) _⟩
      clear x0 x1 y0 y1 S
      go_roundg (n - (i + 1))
      case measure => omega
      case rel => exact ⟨i + 1, rfl, rfl, by omega, T⟩
    · have e : i = n := by omega
      subst e
      have S1 : Hid (FrX W6 xb i (nullA p E D c 0) ∧ Below w.heap.size w W6) := ⟨S.out.1.congr fun l hl => (if_pos hl).symm, S.out.2⟩
      have r1 := (S.out.2.cell (p := ⟨eb, 1, none⟩) HD.out.e.hb).trans HD.out.e.c1
      clear S
      go_wp2_with fail
      clear r1
      go_loopg [32] k (fun g s32 wx => ∃ j : Nat, s32 = .int .i64 j ∧ g = k - j ∧ j ≤ k ∧ Hid (FrX wx xb i (nullA p E D c j) ∧ Below w.heap.size w wx))
      case atStart => exact ⟨0, rfl, rfl, Nat.zero_le _, S1⟩
      case round =>
        clear S1
        obtain ⟨j, rfl, rfl, hj, S⟩ := hrel
        rename World => W7
        by_cases hltj : j < k
        · have wk : IntKind.i64.wrap ((j : Int) + 1) = ((j + 1 : Nat) : Int) := by rw [IntWalk.i64_in _ (by omega)]; omega
          have D6 := HD.out.on S.out.2
          obtain ⟨pg, hpa, hpg, hpc⟩ := D6.piv (by omega)
          subst hpa
          have c0 := D6.e.c0
          have cp := hpc j hltj
          have ct := D6.g.top j (by omega)
          have cc := D6.g.cell j c (by omega) hc
          have hs := HI.out.dE j c (by omega) hc
          have hd := HI.out.dD
          have hpj := HI.out.lt j hltj
          have CS := Lib.hid (share_any eb _ _ D (-(E j c)) _ _ _ W7 D6.e (by omega) (by omega) (by omega) (by omega) (shF_eq (-(E j c)) D))
          have wn : IntKind.i64.wrap (-(E j c)) = -(E j c) := IntWalk.i64_in _ (by omega)
          clear D6 hs hd hpc hpg
          go_wp2_with fail
          (with_reducible refine ((CS.out).mono ?_))
          rintro e w7 ⟨rfl, hb7⟩
          have HF7 := Lib.hid (S.out.1.on hb7)
          have HB7 := Lib.hid (below_on S.out.2 hb7)
          clear CS hb7 S c0 cp ct cc wn
          have x0 := HF7.out.c0 (p j) hpj
          have x1 := HF7.out.c1 (p j) hpj
          have y0 := HF7.out.f0 (p j) hpj
          have y1 := HF7.out.f1 (p j) hpj
          go_wp2_with fail
          have T := Lib.hid (And.intro (HF7.out.set (p j) hpj (shF (-(E j c)) D).1 (shF (-(E j c)) D).2) ((HB7.out.setCell (p := ⟨xb, p j * 2, none⟩) (by show w.heap.size ≤ xb; rw [HXB.out]; exact Nat.le_refl _) (.int .i64 (shF (-(E j c)) D).1)).setCell (p := ⟨xb, p j * 2 + 1, none⟩) (by show w.heap.size ≤ xb; rw [HXB.out]; exact Nat.le_refl _) (.int .i64 (shF (-(E j c)) D).2)))
          clear x0 x1 y0 y1 HF7 HB7
          go_roundg (k - (j + 1))
          case measure => omega
          case rel => exact ⟨j + 1, rfl, rfl, by omega, T⟩
        · have e : j = k := by omega
          subst e
          have x0 := S.out.1.c0 c hc
          have x1 := S.out.1.c1 c hc
          have y0 := S.out.1.f0 c hc
          have y1 := S.out.1.f1 c hc
          go_wp2_with fail
          go_ret
          exact ⟨xb, rfl, by rw [HXB.out]; exact Nat.le_refl _, (S.out.2.setCell (by show w.heap.size ≤ xb; rw [HXB.out]; exact Nat.le_refl _) _).setCell (by show w.heap.size ≤ xb; rw [HXB.out]; exact Nat.le_refl _) _, S.out.1.set c hc 1 1⟩

/-- The free columns before i. -/
def frL (k : Nat) (p : Nat → Nat) (i : Nat) : List Nat := (List.range i).filter fun c => !decide (∃ l, l < k ∧ p l = c)
theorem frL_lt {k i c : Nat} {p : Nat → Nat} (h : c ∈ frL k p i) : c < i := by
  unfold frL at h
  have := (List.mem_filter.1 h).1
  simpa using this
theorem frL_in {k i : Nat} {p : Nat → Nat} (h : decide (∃ l, l < k ∧ p l = i) = true) : frL k p (i + 1) = frL k p i := by
  unfold frL
  rw [List.range_succ, List.filter_append]
  simp [of_decide_eq_true h]
theorem frL_out {k i : Nat} {p : Nat → Nat} (h : decide (∃ l, l < k ∧ p l = i) = false) : frL k p (i + 1) = frL k p i ++ [i] := by
  unfold frL
  rw [List.range_succ, List.filter_append]
  simp [h]
theorem frL_len (k i : Nat) (p : Nat → Nat) : (frL k p i).length ≤ i := by
  unfold frL
  have := List.length_filter_le (fun c => !decide (∃ l, l < k ∧ p l = c)) (List.range i)
  simpa using this

structure NSt (B0 : Nat) (W : World) (n k : Nat) (p : Nat → Nat) (E : Nat → Nat → Int) (D : Int) (i : Nat) (V : Nat → Nat) (vv : Value) : Prop where
  own : W.ownsRow B0 35 1 vv (frL k p i).length ((frL k p i).map fun c => Value.slice (some ⟨V c, 0, none⟩) n n)
  vec : ∀ c, c ∈ frL k p i → FrX W (V c) n (updF (nullA p E D c k) c (1, 1)) ∧ vv.ownBlock ≠ some (V c)
theorem NSt.on {B0 : Nat} {W W2 : World} {n k : Nat} {p : Nat → Nat} {E : Nat → Nat → Int} {D : Int} {i : Nat} {V : Nat → Nat} {vv : Value} (h : NSt B0 W n k p E D i V vv) (hb : Below W.heap.size W W2) : NSt B0 W2 n k p E D i V vv :=
  ⟨own_only h.own (Only.of_below (S := fun _ => False) hb) (fun _ _ q => q), fun c hc => ⟨(h.vec c hc).1.on hb, (h.vec c hc).2⟩⟩
theorem FrX.only {S : Nat → Prop} {W W2 : World} {xb n : Nat} {F : Nat → Int × Int} (h : FrX W xb n F) (hb : Only S W W2) (hn : ¬ S xb) : FrX W2 xb n F :=
  ⟨Nat.lt_of_lt_of_le h.hb hb.size, fun l hl => (hb.cell (p := ⟨xb, l * 2, none⟩) h.hb hn).trans (h.c0 l hl), fun l hl => (hb.cell (p := ⟨xb, l * 2 + 1, none⟩) h.hb hn).trans (h.c1 l hl), fun l hl => (hb.frozen (p := ⟨xb, l * 2, none⟩) h.hb hn).trans (h.f0 l hl), fun l hl => (hb.frozen (p := ⟨xb, l * 2 + 1, none⟩) h.hb hn).trans (h.f1 l hl)⟩
theorem vec_list {k i n xb : Nat} {p V : Nat → Nat} (h : frL k p (i + 1) = frL k p i ++ [i]) :
    ((frL k p (i + 1)).map fun c => Value.slice (some ⟨updN V i xb c, 0, none⟩) n n) = ((frL k p i).map fun c => Value.slice (some ⟨V c, 0, none⟩) n n) ++ [Value.slice (some ⟨xb, 0, none⟩) n n] := by
  rw [h, List.map_append]
  congr 1
  · apply List.map_congr_left
    intro c hc
    have := frL_lt hc
    unfold updN
    rw [if_neg (by omega)]
  · simp [updN]
theorem NSt.push {B0 : Nat} {W W2 : World} {n k : Nat} {p : Nat → Nat} {E : Nat → Nat → Int} {D : Int} {i : Nat} {V : Nat → Nat} {vv : Value} {xb g cap m : Nat} (h : NSt B0 W n k p E D i V vv) (e : frL k p (i + 1) = frL k p i ++ [i])
    (hx : FrX W xb n (updF (nullA p E D i k) i (1, 1))) (hxv : vv.ownBlock ≠ some xb) (hm : m = (frL k p i).length + 1)
    (ho : W2.ownsRow B0 35 1 (.slice (some ⟨g, 0, none⟩) m cap) m (((frL k p i).map fun c => Value.slice (some ⟨V c, 0, none⟩) n n) ++ [Value.slice (some ⟨xb, 0, none⟩) n n]))
    (hg : W.grownBy W2 vv.ownBlock) (ha : vv.ownBlock = some g ∨ g = W.heap.size) : NSt B0 W2 n k p E D (i + 1) (updN V i xb) (.slice (some ⟨g, 0, none⟩) m cap) := by
  have ol := grown_only (Below.refl W.heap.size W) hg
  have far : ∀ q, q < W.heap.size → vv.ownBlock ≠ some q → (Value.slice (some ⟨g, 0, none⟩) m cap).ownBlock ≠ some q := fun q hq hn e => by
    have e2 : g = q := by simpa [Value.ownBlock] using e
    rcases ha with ha | ha
    · exact hn (by rw [ha, e2])
    · omega
  subst hm
  refine ⟨?_, fun c hc => ?_⟩
  · rw [vec_list e, e]
    simpa using ho
  · rw [e] at hc
    rcases List.mem_append.1 hc with hc | hc
    · have := frL_lt hc
      have hv := h.vec c hc
      rw [show updN V i xb c = V c by unfold updN; rw [if_neg (by omega)]]
      exact ⟨hv.1.only ol hv.2, far _ hv.1.hb hv.2⟩
    · have e2 : c = i := by simpa using hc
      subst e2
      rw [show updN V c xb c = xb by unfold updN; rw [if_pos rfl]]
      exact ⟨hx.only ol hxv, far _ hx.hb hxv⟩

section
variable (ma : Option Addr) (R mc : Nat) (Ra : Nat → Option Addr) (Ln Ka : Nat → Nat) (Z : Nat → Nat → Int) (w : World)

theorem Null_bad (hM : AMat w ma R Ra Ln Ka Z) (hR : R ≤ 9223372036854775807) (hv : ¬ vMP R Ln Z) :
    Calls Try.prog 22 #[.slice ma R mc] w fun e w' => e = .returned (.tuple #[.slice none 0 0, .int .i64 1]) ∧ Below w.heap.size w w' := by
  have CV := Lib.hid (lValid_any ma R mc Ra Ln Ka Z w hM hR)
  rw [vM_no hv] at CV
  clear hM hv
  go_enter Try.func22, Try.ntmps22
  go_wp2_with fail
  (with_reducible refine ((CV.out).mono ?_))
  rintro e w1 ⟨rfl, hb⟩
  go_wp2_with fail
  go_returns
  exact ⟨rfl, hb⟩
theorem Rank_bad (hM : AMat w ma R Ra Ln Ka Z) (hR : R ≤ 9223372036854775807) (hv : ¬ vMP R Ln Z) :
    Calls Try.prog 12 #[.slice ma R mc] w fun e w' => e = .returned (.tuple #[.int .i64 0, .int .i64 1]) ∧ Below w.heap.size w w' := by
  have CV := Lib.hid (lValid_any ma R mc Ra Ln Ka Z w hM hR)
  rw [vM_no hv] at CV
  clear hM hv
  go_enter Try.func12, Try.ntmps12
  go_wp2_with fail
  (with_reducible refine ((CV.out).mono ?_))
  rintro e w1 ⟨rfl, hb⟩
  go_wp2_with fail
  go_returns
  exact ⟨rfl, hb⟩
theorem Det_bad (hM : AMat w ma R Ra Ln Ka Z) (hR : R ≤ 9223372036854775807) (hv : ¬ vMP R Ln Z) :
    Calls Try.prog 14 #[.slice ma R mc] w fun e w' => e = .returned (.tuple #[.int .i64 0, .int .i64 1]) ∧ Below w.heap.size w w' := by
  have CV := Lib.hid (lValid_any ma R mc Ra Ln Ka Z w hM hR)
  rw [vM_no hv] at CV
  clear hM hv
  go_enter Try.func14, Try.ntmps14
  go_wp2_with fail
  (with_reducible refine ((CV.out).mono ?_))
  rintro e w1 ⟨rfl, hb⟩
  go_wp2_with fail
  go_returns
  exact ⟨rfl, hb⟩

/-- The elimination of a valid matrix. -/
theorem elim_ok (mb mo n : Nat) (Ga Oa : Nat → Nat) (hM : Mat w mb mo R n Ga Oa Ka Z) (hn : Ln 0 = n) (hv : vMP R Ln Z) :
    Calls Try.prog 44 #[.slice (some ⟨mb, mo, none⟩) R mc] w fun e w' => Below w.heap.size w w' ∧
      ∃ b Cb G C U E pv k p D, e = .returned (.agg #[.slice (some ⟨b, 0, none⟩) R Cb, pv, .int .i64 D]) ∧ R ≤ Cb ∧ Grid w.heap.size w' b R n G C E ∧ w'.ownsRow w.heap.size 3 1 pv k ((List.range k).map fun l => Value.int .i64 (p l)) ∧ EInv R n n Z U k n p E D :=
  eliminate_any mb mo mc R n n Ga Oa Ka Z w hM hv.1 (by have := hv.2.1; omega) (by have := hv.2.2.1; omega) (by have := hv.2.2.2.1; omega) (.inl hv.2.1) (fun i j hi hj => by
    have h1 := hv.2.2.2.2 i hi
    have h2 := h1.2 j (by rw [h1.1, hn]; exact hj)
    unfold cB
    rw [if_neg (by omega)]
    exact h2)

set_option maxRecDepth 100000 in
theorem Rank_ok (n : Nat) (hn : Ln 0 = n) (hM : AMat w ma R Ra Ln Ka Z) (hv : vMP R Ln Z) :
    Calls Try.prog 12 #[.slice ma R mc] w fun e w' => Below w.heap.size w w' ∧ ∃ k p E D, FinE R n Z k p E D ∧ e = .returned (.tuple #[.int .i64 (k : Nat), .int .i64 0]) := by
  have CV := Lib.hid (lValid_any ma R mc Ra Ln Ka Z w hM (by have := hv.2.1; omega))
  rw [vM_true.2 hv] at CV
  obtain ⟨mb, mo, hma, hMt⟩ := hM.mat hv
  rw [hn] at hMt
  have CE := fun W h => Lib.hid (elim_ok R mc Ln Ka Z W mb mo n (fun i => adB (Ra i)) (fun i => adO (Ra i)) h hn hv)
  have HM := Lib.hid hMt
  clear hM hv hMt hn
  subst hma
  go_enter Try.func12, Try.ntmps12
  go_wp2_with fail
  (with_reducible refine ((CV.out).mono ?_))
  rintro e w1 ⟨rfl, hb⟩
  clear CV
  go_wp2_with fail
  (with_reducible refine (((CE _ (HM.out.on hb)).out).mono ?_))
  rintro e w2 ⟨hb2, b, Cb, G, C, U, E, pv, k, p, D, rfl, hCb, hG, hO, hI⟩
  have HI := Lib.hid hI.fin
  have HB := Lib.hid (below_on hb hb2)
  obtain ⟨pa, pc, hpv⟩ := own_form hO
  subst hpv
  clear CE hb hb2 hI hG hO
  have hfl : ∀ w : World, (Instr.field 68 (.agg #[.slice (some ⟨b, 0, none⟩) R Cb, .slice pa k pc, .int .i64 D]) 1).run Try.prog w = .ok (.slice pa k pc) w := fun _ => by kernel_rfl
  go_wp2_with fail
  go_returns
  exact ⟨HB.out, k, p, E, D, HI.out, rfl⟩

theorem Det_shape (n : Nat) (hn : Ln 0 = n) (hM : AMat w ma R Ra Ln Ka Z) (hv : vMP R Ln Z) (hne : R ≠ n) :
    Calls Try.prog 14 #[.slice ma R mc] w fun e w' => e = .returned (.tuple #[.int .i64 0, .int .i64 19]) ∧ Below w.heap.size w w' := by
  have CV := Lib.hid (lValid_any ma R mc Ra Ln Ka Z w hM (by have := hv.2.1; omega))
  rw [vM_true.2 hv] at CV
  obtain ⟨mb, mo, hma, hMt⟩ := hM.mat hv
  rw [hn] at hMt
  have HM := Lib.hid hMt
  have hR0 := hv.1
  clear hM hv hMt hn
  subst hma
  have t1 : ¬ ((R : Int) = (n : Int)) := by omega
  go_enter Try.func14, Try.ntmps14
  go_wp2_with fail
  (with_reducible refine ((CV.out).mono ?_))
  rintro e w1 ⟨rfl, hb⟩
  clear CV
  have p0 := (HM.out.on hb).top 0 hR0
  rw [Nat.add_zero] at p0
  go_wp2_with fail
  go_returns
  exact ⟨rfl, hb⟩

theorem Det_ok (hn : Ln 0 = R) (hM : AMat w ma R Ra Ln Ka Z) (hv : vMP R Ln Z) :
    Calls Try.prog 14 #[.slice ma R mc] w fun e w' => Below w.heap.size w w' ∧ ∃ k p E D, FinE R R Z k p E D ∧ e = .returned (.tuple #[.int .i64 (if k < R then 0 else D), .int .i64 0]) := by
  have CV := Lib.hid (lValid_any ma R mc Ra Ln Ka Z w hM (by have := hv.2.1; omega))
  rw [vM_true.2 hv] at CV
  obtain ⟨mb, mo, hma, hMt⟩ := hM.mat hv
  rw [hn] at hMt
  have CE := fun W h => Lib.hid (elim_ok R mc Ln Ka Z W mb mo R (fun i => adB (Ra i)) (fun i => adO (Ra i)) h hn hv)
  have HM := Lib.hid hMt
  have hR0 := hv.1
  clear hM hv hMt hn
  subst hma
  go_enter Try.func14, Try.ntmps14
  go_wp2_with fail
  (with_reducible refine ((CV.out).mono ?_))
  rintro e w1 ⟨rfl, hb⟩
  clear CV
  have p0 := (HM.out.on hb).top 0 hR0
  rw [Nat.add_zero] at p0
  go_wp2_with fail
  (with_reducible refine (((CE _ (HM.out.on hb)).out).mono ?_))
  rintro e w2 ⟨hb2, b, Cb, G, C, U, E, pv, k, p, D, rfl, hCb, hG, hO, hI⟩
  have HI := Lib.hid hI.fin
  have HB := Lib.hid (below_on hb hb2)
  obtain ⟨pa, pc, hpv⟩ := own_form hO
  subst hpv
  clear CE hb hb2 hI hG hO p0
  by_cases h : k < R
  · have t1 : ((k : Int) < (R : Int)) := by omega
    go_wp2_with fail
    go_returns
    exact ⟨HB.out.alloc HB.out.size _, k, p, E, D, HI.out, by rw [if_pos h]; rfl⟩
  · have t1 : ¬ ((k : Int) < (R : Int)) := by omega
    go_wp2_with fail
    go_returns
    exact ⟨HB.out.alloc HB.out.size _, k, p, E, D, HI.out, by rw [if_neg h]; rfl⟩
end

end Go.Proofs.Ytjggnmbdgagkoaa

namespace Go.Proofs.Ytjggnmbdgagkoaa
set_option linter.unusedVariables false
open Go.RowKit Go.Shelf

section
variable (ma : Option Addr) (R mc : Nat) (Ra : Nat → Option Addr) (Ln Ka : Nat → Nat) (Z : Nat → Nat → Int) (w : World)

set_option maxRecDepth 100000 in
set_option maxHeartbeats 16000000 in
theorem Null_ok (n : Nat) (hn : Ln 0 = n) (hM : AMat w ma R Ra Ln Ka Z) (hv : vMP R Ln Z) :
    Calls Try.prog 22 #[.slice ma R mc] w fun e w' => Below w.heap.size w w' ∧ ∃ k p E D V vv, FinE R n Z k p E D ∧ e = .returned (.tuple #[vv, .int .i64 0]) ∧ NSt w.heap.size w' n k p E D n V vv := by
  have CV := Lib.hid (lValid_any ma R mc Ra Ln Ka Z w hM (by have := hv.2.1; omega))
  rw [vM_true.2 hv] at CV
  obtain ⟨mb, mo, hma, hMt⟩ := hM.mat hv
  rw [hn] at hMt
  have CE := fun W h => Lib.hid (elim_ok R mc Ln Ka Z W mb mo n (fun i => adB (Ra i)) (fun i => adO (Ra i)) h hn hv)
  have HM := Lib.hid hMt
  have hR0 := hv.1
  have hR6 := hv.2.1
  have hn0 : 0 < n := by have := hv.2.2.1; omega
  have hn12 : n ≤ 12 := by have := hv.2.2.2.1; omega
  clear hM hv hMt hn
  subst hma
  obtain ⟨i0, hi0, hz0, hz1, hz2⟩ := info_parts (show (Try.prog.info? 35).map (fun i => (i.zero, i.size, i.bytes)) = some (some (Value.slice none 0 0), 1, 24) by kernel_rfl)
  go_enter Try.func22, Try.ntmps22
  go_wp2_with fail
  (with_reducible refine ((CV.out).mono ?_))
  rintro e w1 ⟨rfl, hb⟩
  have HB1 := Lib.hid hb
  clear CV hb
  go_wp2_with fail
  (with_reducible refine (((CE _ (HM.out.on HB1.out)).out).mono ?_))
  rintro e w2 ⟨hb2, b, Cb, G, C, U, E, pv, k, p, D, rfl, hCb, hG, hO, hI⟩
  have HI := Lib.hid hI.fin
  have HG := Lib.hid hG
  have HO := Lib.hid hO
  have HB2 := Lib.hid (below_on HB1.out hb2)
  obtain ⟨pa, pc, hpv⟩ := own_form hO
  subst hpv
  clear CE hb2 hI hG hO HB1
  go_upto_region 5 with fail
  have hb5 : Below w2.heap.size w2 (w2.alloc (Obj.cells #[Value.slice (some ⟨b, 0, none⟩) R Cb, Value.slice pa k pc, Value.int IntKind.i64 D] 68)) := (Below.refl _ _).alloc (Nat.le_refl _) _
  have D5 := DSt.new (Cb := Cb) (D := D) HG.out HO.out 68
  obtain ⟨W5, hW5⟩ : ∃ W, W = w2.alloc (Obj.cells #[Value.slice (some ⟨b, 0, none⟩) R Cb, Value.slice pa k pc, Value.int IntKind.i64 D] 68) := ⟨_, rfl⟩
  obtain ⟨eb, heb⟩ : ∃ x, x = w2.heap.size := ⟨_, rfl⟩
  rw [← hW5, ← heb] at D5
  rw [← hW5] at hb5
  rw [← hW5, ← heb]
  have HB5 := Lib.hid (below_on HB2.out hb5)
  have HD := Lib.hid D5
  have S0 : Hid (NSt W5.heap.size W5 n k p E D 0 (fun _ => 0) (.slice none 0 0) ∧ Below W5.heap.size W5 W5) :=
    ⟨⟨World.ownsRow_nil _ _ _ _, fun c hc => by cases hc⟩, Below.refl _ _⟩
  have p0 := (HM.out.on HB5.out).top 0 hR0
  rw [Nat.add_zero] at p0
  clear hW5 heb hb5 D5 HG HO HB2
  have kR := HI.out.kR
  go_wp2_with fail
  clear p0
  go_loopg [16, 5] n (fun g s16 s5 wx => ∃ (i : Nat) (V : Nat → Nat), s16 = .int .i64 i ∧ g = n - i ∧ i ≤ n ∧ Hid (NSt W5.heap.size wx n k p E D i V s5 ∧ Below W5.heap.size W5 wx))
  case atStart => exact ⟨0, _, rfl, rfl, Nat.zero_le _, S0⟩
  case round =>
    clear S0
    obtain ⟨i, V, rfl, rfl, hi, S⟩ := hrel
    rename World => W6
    by_cases hlt : i < n
    · have wk : IntKind.i64.wrap ((i : Int) + 1) = ((i + 1 : Nat) : Int) := by rw [IntWalk.i64_in _ (by omega)]; omega
      have D6 := HD.out.on S.out.2
      have q1 := D6.e.c1
      have CC0 := cont_pv w1.heap.size k _ p i W6 D6.o (by omega)
      obtain ⟨tb, htb⟩ : ∃ x, decide (∃ l, l < k ∧ p l = i) = x := ⟨_, rfl⟩
      rw [htb] at CC0
      have CC := Lib.hid CC0
      have HT := Lib.hid htb
      have H6 := Lib.hid D6
      clear CC0 htb D6
      obtain ⟨va, vc, hvv⟩ := own_form S.out.1.own
      subst hvv
      go_wp2_with fail
      (with_reducible refine ((CC.out).mono ?_))
      rintro e W ⟨rfl, rfl⟩
      clear CC q1
      cases tb
      case true =>
        have hfe := frL_in HT.out
        have T : Hid (NSt W5.heap.size W n k p E D (i + 1) V (.slice va (frL k p i).length vc) ∧ Below W5.heap.size W5 W) := ⟨⟨by rw [hfe]; exact S.out.1.own, fun c hc => S.out.1.vec c (by rwa [hfe] at hc)⟩, S.out.2⟩
        clear hfe
        go_wp2_with fail
        go_roundg (n - (i + 1))
        case measure => omega
        case rel => exact ⟨i + 1, V, rfl, rfl, by omega, T⟩
      case false =>
        have CN := Lib.hid (null_any w1.heap.size eb b R n Cb k G C E _ p D i Z W H6.out HI.out hR0 (by omega) hn0 (by omega) hlt hCb)
        have HL := frL_len k i p
        have HS0 := Lib.hid S.out.2.size
        go_wp2_with fail
        (with_reducible refine ((CN.out).mono ?_))
        rintro e w7 ⟨xb, rfl, hxb, hb7, hF⟩
        have hb8 : Below w7.heap.size w7 (w7.alloc (Obj.cells #[Value.slice (some ⟨xb, 0, none⟩) n n] 35)) := (Below.refl _ _).alloc (Nat.le_refl _) _
        have T2 := Lib.hid (S.out.1.on (below_on hb7 hb8))
        have T3 := Lib.hid (below_on S.out.2 (below_on hb7 hb8))
        have T4 := Lib.hid (hF.on hb8)
        have T6 : Hid ((Value.slice va (frL k p i).length vc).ownBlock ≠ some xb) := fun e => by have := (S.out.1.own.lt xb e).2; omega
        clear CN hF hb7 hb8 hxb S H6
        go_wp2_with (at_builtin; refine wpList_append_lies _ rfl _ _ 38 rfl W5.heap.size 35 i0 (.slice none 0 0) 1 24 Try.underlying38 hi0 hz0 hz1 hz2 rfl (by decide) _ _ _ rfl T2.out.own ⟨w7.heap.size, 0, none⟩ 1 1 [.slice (some ⟨xb, 0, none⟩) n n] rfl rfl (cell_one_new _ _ _) (by intro u hu; simp at hu; subst hu; rfl) (by omega) (by unfold maxLen; omega) (by omega) T3.out.size _ rfl ?_; intro g cap w9 hown hgrow hat hlt9)
        have T : Hid (NSt W5.heap.size w9 n k p E D (i + 1) (updN V i xb) (.slice (some ⟨g, 0, none⟩) ((frL k p i).length + 1) cap) ∧ Below W5.heap.size W5 w9) :=
          ⟨T2.out.push (frL_out HT.out) T4.out T6.out rfl hown hgrow hat, below_grown T3.out T2.out.own hgrow⟩
        clear hown hgrow hat hlt9 T2 T3 T4 T6
        go_roundg (n - (i + 1))
        case measure => omega
        case rel => exact ⟨i + 1, _, rfl, rfl, by omega, T⟩
    · have e : i = n := by omega
      subst e
      go_wp2_with fail
      go_returns
      exact ⟨HB5.out.trans (S.out.2.mono HB5.out.size), k, p, E, D, V, _, HI.out, rfl, own_base S.out.1.own HB5.out.size, S.out.1.vec⟩
end

end Go.Proofs.Ytjggnmbdgagkoaa

namespace Go.Proofs.Ytjggnmbdgagkoaa
set_option linter.unusedVariables false
open Go.RowKit Go.Shelf

/-- A list of fractions that is read alone; nil, or empty, or not. -/
def FrL (W : World) (ao : Option Addr) (l : List (Int × Int)) : Prop := 0 < l.length → ∃ b o, ao = some ⟨b, o, none⟩ ∧ b < W.heap.size ∧ Frs W b o l
theorem FrL.on {W W2 : World} {ao : Option Addr} {l : List (Int × Int)} (h : FrL W ao l) (hb : Below W.heap.size W W2) : FrL W2 ao l := fun hl => by
  obtain ⟨b, o, h1, h2, h3⟩ := h hl
  exact ⟨b, o, h1, Nat.lt_of_lt_of_le h2 hb.size, h3.on h2 hb⟩

theorem equalF_same (a1 a2 : Option Addr) (c1 c2 n : Nat) (l1 l2 : List (Int × Int)) (w : World) (h1 : FrL w a1 l1) (h2 : FrL w a2 l2) (e1 : l1.length = n) (e2 : l2.length = n) (n1 : n ≤ 9223372036854775807) :
    Calls Try.prog 25 #[.slice a1 n c1, .slice a2 n c2] w fun e w' => e = .returned (.bool (decide (l1 = l2))) ∧ Below w.heap.size w w' := by
  have H1 := Lib.hid h1
  have H2 := Lib.hid h2
  have HE := Lib.hid (And.intro e1 e2)
  clear h1 h2 e1 e2
  go_enter Try.func25, Try.ntmps25
  go_wp2_with fail
  have S0 : Hid (Below w.heap.size w w ∧ l1.take 0 = l2.take 0) := ⟨Below.refl _ _, rfl⟩
  go_loopg [13] n (fun g s13 wx => ∃ i : Nat, s13 = .int .i64 i ∧ g = n - i ∧ i ≤ n ∧ Hid (Below w.heap.size w wx ∧ l1.take i = l2.take i))
  case atStart => exact ⟨0, rfl, rfl, Nat.zero_le _, S0⟩
  case round =>
    clear S0
    obtain ⟨i, rfl, rfl, hi, S⟩ := hrel
    rename World => W1
    by_cases hlt : i < n
    · have wk : IntKind.i64.wrap ((i : Int) + 1) = ((i + 1 : Nat) : Int) := by rw [IntWalk.i64_in _ (by omega)]; omega
      have hlt1 : i < l1.length := by rw [HE.out.1]; exact hlt
      have hlt2 : i < l2.length := by rw [HE.out.2]; exact hlt
      obtain ⟨b1, o1, rfl, k1, r1⟩ := H1.out (by omega)
      obtain ⟨b2, o2, rfl, k2, r2⟩ := H2.out (by omega)
      have p1 := (S.out.1.cell (p := ⟨b1, o1 + i * 2, none⟩) k1).trans (r1 i hlt1).1
      have p2 := (S.out.1.cell (p := ⟨b1, o1 + i * 2 + 1, none⟩) k1).trans (r1 i hlt1).2
      have p3 := (S.out.1.cell (p := ⟨b2, o2 + i * 2, none⟩) k2).trans (r2 i hlt2).1
      have p4 := (S.out.1.cell (p := ⟨b2, o2 + i * 2 + 1, none⟩) k2).trans (r2 i hlt2).2
      have hx1 : l1[i]? = some l1[i] := List.getElem?_eq_getElem hlt1
      have hx2 : l2[i]? = some l2[i] := List.getElem?_eq_getElem hlt2
      obtain ⟨x, hx⟩ : ∃ x, l1[i] = x := ⟨_, rfl⟩
      obtain ⟨y, hy⟩ : ∃ y, l2[i] = y := ⟨_, rfl⟩
      rw [hx] at p1 p2 hx1
      rw [hy] at p3 p4 hx2
      have HX := Lib.hid (And.intro hx1 hx2)
      clear hx hy r1 r2 k1 k2 hx1 hx2 hlt1 hlt2
      obtain ⟨xa, xb⟩ := x
      obtain ⟨ya, yb⟩ := y
      simp only at p1 p2 p3 p4
      go_upto_region 6 with fail
      by_cases e : xa = ya ∧ xb = yb
      · obtain ⟨e1, e2⟩ := e
        subst e1
        subst e2
        have HS2 : Hid (l1.take (i + 1) = l2.take (i + 1)) := by
          show l1.take (i + 1) = l2.take (i + 1)
          rw [List.take_add_one, List.take_add_one, HX.out.1, HX.out.2, S.out.2]
        go_quiet (fail)
        have T : Hid (Below w.heap.size w (W1.drewN nq) ∧ l1.take (i + 1) = l2.take (i + 1)) := ⟨below_drewN' S.out.1 nq, HS2.out⟩
        clear p1 p2 p3 p4 HX HS2 S
        go_wp2_with fail
        go_roundg (n - (i + 1))
        case measure => omega
        case rel => exact ⟨i + 1, rfl, rfl, by omega, T⟩
      · have HN : Hid (¬ l1 = l2) := fun h => by
          have := HX.out.1
          rw [h, HX.out.2] at this
          injection this with this
          injection this with h1 h2
          exact e ⟨h1.symm, h2.symm⟩
        have hB := Lib.hid S.out.1
        by_cases ex : xa = ya
        · subst ex
          have en : ¬ (xb = yb) := fun h => e ⟨rfl, h⟩
          have en2 : (xb == yb) = false := by simpa using en
          clear e
          go_quiet (fail)
          clear p1 p2 p3 p4 HX S
          go_wp2_with fail
          go_ret
          exact ⟨by rw [decide_eq_false HN.out]; rfl, below_drewN' hB.out _⟩
        · have en2 : (xa == ya) = false := by simpa using ex
          clear e
          go_quiet (fail)
          clear p1 p2 p3 p4 HX S
          go_wp2_with fail
          go_ret
          exact ⟨by rw [decide_eq_false HN.out]; rfl, below_drewN' hB.out _⟩
    · have e : i = n := by omega
      subst e
      have HT : Hid (l1 = l2) := by
        have := S.out.2
        rw [List.take_of_length_le (by rw [HE.out.1]; exact Nat.le_refl _), List.take_of_length_le (by rw [HE.out.2]; exact Nat.le_refl _)] at this
        exact this
      go_wp2_with fail
      go_ret
      exact ⟨by rw [decide_eq_true HT.out]; rfl, S.out.1⟩

end Go.Proofs.Ytjggnmbdgagkoaa

namespace Go.Proofs.Ytjggnmbdgagkoaa
set_option linter.unusedVariables false

theorem sol_ex {M : Nat → Nat → Int} {k : Nat} {p : Nat → Nat} {E : Nat → Nat → Int} {D : Int} (h : FinE 2 3 M k p E D) (m00 : M 0 0 = 2) (m01 : M 0 1 = 1) (m02 : M 0 2 = 5) (m10 : M 1 0 = 1) (m11 : M 1 1 = -1) (m12 : M 1 2 = 1) :
    (¬ ∃ l, l < k ∧ p l = 2) ∧ k = 2 ∧ E 0 2 = 2 * D ∧ E 1 2 = 1 * D := by
  have nz := h.nz
  have r00 := h.rel 0 (by omega) 0 (by omega)
  have r01 := h.rel 0 (by omega) 1 (by omega)
  have r02 := h.rel 0 (by omega) 2 (by omega)
  have r10 := h.rel 1 (by omega) 0 (by omega)
  have r11 := h.rel 1 (by omega) 1 (by omega)
  have r12 := h.rel 1 (by omega) 2 (by omega)
  rw [m00] at r00; rw [m01] at r01; rw [m02] at r02; rw [m10] at r10; rw [m11] at r11; rw [m12] at r12
  have kR := h.kR
  have hk : k = 0 ∨ k = 1 ∨ k = 2 := by omega
  rcases hk with rfl | rfl | rfl
  · simp [sumN] at r00; omega
  · have p0 := h.lt 0 (by omega)
    have hp : p 0 = 0 ∨ p 0 = 1 ∨ p 0 = 2 := by omega
    simp only [sumN, Int.zero_add] at r00 r01 r10 r11
    rcases hp with e | e | e <;> rw [e] at r00 r01 r10 r11 <;> simp only [m00, m01, m02, m10, m11, m12] at r00 r01 r10 r11 <;> omega
  · have p0 := h.lt 0 (by omega)
    have p1 := h.lt 1 (by omega)
    have pp := h.up 0 1 (by omega) (by omega)
    simp only [sumN, Int.zero_add] at r00 r01 r02 r10 r11 r12
    have hp : (p 0 = 0 ∧ p 1 = 1) ∨ (p 0 = 0 ∧ p 1 = 2) ∨ (p 0 = 1 ∧ p 1 = 2) := by omega
    rcases hp with ⟨e, e2⟩ | ⟨e, e2⟩ | ⟨e, e2⟩
    · rw [e, e2] at r02 r12
      simp only [m00, m01, m10, m11] at r02 r12
      refine ⟨?_, rfl, by omega, by omega⟩
      rintro ⟨l, hl, q⟩
      have : l = 0 ∨ l = 1 := by omega
      rcases this with rfl | rfl <;> omega
    · have z := h.left 1 (by omega) (fun l hl => by
        have : l = 0 ∨ l = 1 := by omega
        rcases this with rfl | rfl <;> omega) 1 (by omega) (by omega)
      rw [e, e2, z] at r01 r11
      simp only [m00, m10] at r01 r11
      omega
    · have z0 := h.left 0 (by omega) (fun l hl => by
        have : l = 0 ∨ l = 1 := by omega
        rcases this with rfl | rfl <;> omega) 0 (by omega) (by omega)
      have z1 := h.left 0 (by omega) (fun l hl => by
        have : l = 0 ∨ l = 1 := by omega
        rcases this with rfl | rfl <;> omega) 1 (by omega) (by omega)
      rw [z0, z1] at r00
      omega

theorem det_ex {M : Nat → Nat → Int} {k : Nat} {p : Nat → Nat} {E : Nat → Nat → Int} {D : Int} (h : FinE 2 2 M k p E D) (m00 : M 0 0 = 2) (m01 : M 0 1 = 1) (m10 : M 1 0 = 1) (m11 : M 1 1 = -1) :
    (if k < 2 then 0 else D) = -3 := by
  have nz := h.nz
  have r00 := h.rel 0 (by omega) 0 (by omega)
  have r01 := h.rel 0 (by omega) 1 (by omega)
  have r10 := h.rel 1 (by omega) 0 (by omega)
  have r11 := h.rel 1 (by omega) 1 (by omega)
  rw [m00] at r00; rw [m01] at r01; rw [m10] at r10; rw [m11] at r11
  have kR := h.kR
  have hk : k = 0 ∨ k = 1 ∨ k = 2 := by omega
  rcases hk with rfl | rfl | rfl
  · simp [sumN] at r00; omega
  · have p0 := h.lt 0 (by omega)
    have hp : p 0 = 0 ∨ p 0 = 1 := by omega
    simp only [sumN, Int.zero_add] at r00 r01 r10 r11
    rcases hp with e | e <;> rw [e] at r00 r01 r10 r11 <;> simp only [m00, m01, m10, m11] at r00 r01 r10 r11 <;> omega
  · have p0 := h.lt 0 (by omega)
    have p1 := h.lt 1 (by omega)
    have pp := h.up 0 1 (by omega) (by omega)
    have e0 : p 0 = 0 := by omega
    have e1 : p 1 = 1 := by omega
    have d := h.det rfl
    simp only [detN, sumN, sgP, skipV] at d
    simp [e0, e1, m00, m01, m10, m11] at d
    rw [if_neg (by omega)]
    omega

theorem null_ex {M : Nat → Nat → Int} {k : Nat} {p : Nat → Nat} {E : Nat → Nat → Int} {D : Int} (h : FinE 1 3 M k p E D) (m00 : M 0 0 = 1) (m01 : M 0 1 = 2) (m02 : M 0 2 = 3) :
    k = 1 ∧ p 0 = 0 ∧ -(E 0 1) = -2 * D ∧ -(E 0 2) = -3 * D := by
  have nz := h.nz
  have r00 := h.rel 0 (by omega) 0 (by omega)
  have r01 := h.rel 0 (by omega) 1 (by omega)
  have r02 := h.rel 0 (by omega) 2 (by omega)
  rw [m00] at r00; rw [m01] at r01; rw [m02] at r02
  have kR := h.kR
  have hk : k = 0 ∨ k = 1 := by omega
  rcases hk with rfl | rfl
  · simp [sumN] at r00; omega
  · have p0 := h.lt 0 (by omega)
    simp only [sumN, Int.zero_add] at r00 r01 r02
    by_cases e : p 0 = 0
    · rw [e, m00] at r01 r02
      exact ⟨rfl, e, by omega, by omega⟩
    · have z := h.left 0 (by omega) (fun l hl => by
        have : l = 0 := by omega
        rw [this]; exact e) 0 (by omega) (by omega)
      rw [z] at r00
      omega

theorem make_mul (a D : Int) (hD : D ≠ 0) (a0 : -1152921504606846976 ≤ a) (a1 : a ≤ 1152921504606846976) : makeT (a * D) D = (a, 1, 0) := by
  unfold makeT
  rw [if_neg hD]
  have e : (if D < 0 then -(a * D) else a * D) = a * (D.natAbs : Int) := by
    by_cases h : D < 0
    · rw [if_pos h, show (D.natAbs : Int) = -D by omega, Int.mul_neg]
    · rw [if_neg h, show (D.natAbs : Int) = D by omega]
  rw [e]
  have hq : D.natAbs ≠ 0 := by omega
  have g : Int.gcd (a * (D.natAbs : Int)) (D.natAbs : Int) = D.natAbs := by
    have h2 : ((Int.gcd (a * (D.natAbs : Int)) (D.natAbs : Int) : Nat) : Int) = (D.natAbs : Int) := (Int.gcd_eq_right_iff_dvd (by omega)).2 ⟨a, Int.mul_comm _ _⟩
    omega
  unfold redT
  rw [g, Int.mul_ediv_cancel _ (by omega), Int.ediv_self (by omega)]
  unfold fitT
  rw [if_pos ⟨a0, a1, by omega⟩]

end Go.Proofs.Ytjggnmbdgagkoaa
