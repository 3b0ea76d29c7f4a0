/- Layer 5: copies and turned lists; programs turned, programs with a row more. Layer 5: the law ProgramMore, walked. -/
import Derived.Test.YtdbmlkkpffoadaaPBts
import Derived.Test.YtdbmlkkpffoadaaShelfG
namespace Go.Proofs.Ytdbmlkkpffoadaa
set_option linter.unusedVariables false
open Go.RowKit Go.Shelf

theorem irow_of_own {W : World} {base n : Nat} {pa : Option Addr} {pc : Nat} {f : Nat → Int} (h : W.ownsRow base 3 1 (.slice pa n pc) n ((List.range n).map fun l => Value.int .i64 (f l))) : IRow W pa n f := fun hn => by
  rcases h.2 with ⟨h1, h2⟩ | ⟨g, cap, cur, hv, _⟩
  · omega
  · have e1 : pa = some ⟨g, 0, none⟩ := by injection hv
    rw [hv] at h
    refine ⟨g, 0, e1, (h.lt g rfl).2, fun j hj => ?_⟩
    rw [Nat.zero_add, h.cellAt j (by omega)]
    simp [hj]
theorem clone_ints (ra : Option Addr) (n c : Nat) (f : Nat → Int) (w : World) (hr : IRow w ra n f) (hn : n ≤ 1000) :
    Calls Try.prog 19 #[.slice ra n c] w fun e w' => Below w.heap.size w w' ∧ ∃ pa pc, e = .returned (.slice pa n pc) ∧ w'.ownsRow w.heap.size 3 1 (.slice pa n pc) n ((List.range n).map fun l => Value.int .i64 (f l)) := by
  by_cases h0 : n = 0
  · subst h0
    cases ra with
    | none =>
      refine (Try.slices_Clone_int_nil 0 c w).mono ?_
      rintro e w' ⟨rfl, rfl⟩
      exact ⟨Below.refl _ _, none, 0, rfl, rfl, .inl ⟨rfl, rfl⟩⟩
    | some a =>
      refine (Try.slices_Clone_int_zero a c w).mono ?_
      rintro e w' ⟨v, rfl, ho, _, hb⟩
      obtain ⟨pa, pc, hv⟩ := own_form ho
      subst hv
      exact ⟨hb, pa, pc, rfl, ho⟩
  · obtain ⟨g, o, rfl, hg, hc⟩ := hr (by omega)
    refine (Try.slices_Clone_int g o n c ((List.range n).map f) w (by simp) (by omega) (fun j hj => by
      have hj : j < n := by simpa using hj
      rw [hc j hj]
      simp [List.getD, hj])).mono ?_
    rintro e w' ⟨v, rfl, ho, _, hb⟩
    obtain ⟨pa, pc, hv⟩ := own_form ho
    subst hv
    refine ⟨hb, pa, pc, rfl, ?_⟩
    have e1 : List.map (Value.int .i64) (List.take n (List.map f (List.range n))) = (List.range n).map fun l => Value.int .i64 (f l) := by
      rw [List.take_of_length_le (by simp), List.map_map]; rfl
    rw [← e1]
    exact ho
theorem only_putRow (W : World) (k g : Nat) (d : Array Int) : Only (fun q => q = g) W (Sort.putRow (Value.int .i64) (Sort.ahead W k) g 0 d) :=
  ⟨rfl, rfl, rfl, by simp [Sort.putRow, Sort.mapBlock, Sort.ahead], fun c hc hn => by
    show ((Sort.ahead W k).heap.modify g _)[c]? = W.heap[c]?
    rw [Array.getElem?_modify, if_neg (fun e => hn e.symm)]; rfl⟩
theorem only_mn {S T : Nat → Prop} {W W' : World} (h : Only S W W') (hs : ∀ c, S c → T c) : Only T W W' := ⟨h.os, h.tape, h.output, h.size, fun c hc hn => h.block c hc fun k => hn (hs c k)⟩
theorem own_mn {w : World} {base base' : Nat} {e : TypeId} {size : Nat} {v : Value} {n : Nat} {xs : List Value} (h : w.ownsRow base e size v n xs) (hb : base' ≤ base) : w.ownsRow base' e size v n xs :=
  ⟨h.1, h.2.imp id (fun ⟨g, cap, cur, h1, h2, h3⟩ => ⟨g, cap, cur, h1, Nat.le_trans hb h2, h3⟩)⟩
theorem rev_ints (B n : Nat) (pa : Option Addr) (pc : Nat) (f : Nat → Int) (W : World) (h : W.ownsRow B 3 1 (.slice pa n pc) n ((List.range n).map fun l => Value.int .i64 (f l))) (hn : n ≤ 1000) :
    Calls Try.prog 20 #[.slice pa n pc] W fun e w' => e = .returned (.tuple #[]) ∧ Only (fun q => (Value.slice pa n pc).ownBlock = some q) W w' ∧ IRow w' pa n (fun j => f (n - 1 - j)) := by
  by_cases h0 : n = 0
  · subst h0
    refine (AnyE.slices_Reverse_empty Try.layRevI pa pc W).mono ?_
    rintro e w' ⟨rfl, rfl⟩
    exact ⟨rfl, Only.refl _ _, fun h => by omega⟩
  · rcases h.2 with ⟨h1, h2⟩ | ⟨g, cap, cur, hv, _⟩
    · omega
    · have e1 : pa = some ⟨g, 0, none⟩ := by injection hv
      have e2 : pc = cap := by injection hv
      subst e1 e2
      have hl : ((List.range n).map f).length = n := by simp
      have hH : Sort.Holds (Value.int .i64) W g 0 ((List.range n).map f).toArray := fun j hj => by
        have hj : j < n := by simpa using hj
        rw [Nat.zero_add]
        refine ⟨?_, h.frozenAt j⟩
        rw [h.cellAt j (by omega)]
        simp [hj]
      have hR := AnyE.slices_Reverse Try.layRevI (Value.int .i64) (fun _ => rfl) g 0 pc ((List.range n).map f) W hH (by simp; omega)
      rw [hl] at hR
      refine (show Calls Try.prog 20 _ _ _ from hR).mono ?_
      rintro e w' ⟨rfl, k, rfl⟩
      have hg := (h.lt g rfl).2
      refine ⟨rfl, only_mn (only_putRow W k g _) (fun q hq => by rw [hq]; rfl), fun _ => ⟨g, 0, rfl, by simpa [Sort.putRow, Sort.mapBlock, Sort.ahead] using hg, fun j hj => ?_⟩⟩
      have hh := Sort.holds_putRow (Value.int .i64) (Sort.ahead W k) g 0 ((List.range n).map f).toArray ((List.range n).map f).reverse.toArray (Sort.holds_ahead _ W k g 0 _ hH) (by simp) j (by simpa using hj)
      rw [hh.1]
      congr 2
      have hj2 : j < ((List.range n).map f).length := by simpa using hj
      simp
      rw [List.getElem?_reverse hj2, List.length_map, List.length_range, List.getElem?_map, List.getElem?_range (by omega)]
      rfl
theorem irow_only2 {S : Nat → Prop} {W W2 : World} {ra : Option Addr} {n : Nat} {f : Nat → Int} (h : IRow W ra n f) (ho : Only S W W2) (hn : ∀ g o, ra = some ⟨g, o, none⟩ → ¬ S g) : IRow W2 ra n f := fun hp => by
  obtain ⟨g, o, e, hg, hc⟩ := h hp
  exact ⟨g, o, e, Nat.lt_of_lt_of_le hg ho.size, fun j hj => (ho.cell (p := ⟨g, o + j, none⟩) hg (hn g o e)).trans (hc j hj)⟩
/-- The rows of a program, cell by cell. -/
def pW (p : PgD) : Nat → List Value
  | 0 => []
  | i + 1 => pW p i ++ [Value.slice (p.Ca i) (p.Ln i) (p.Kc i), .int .i64 (p.Kd i), .int .i64 (p.Rt i)]
theorem pW_len (p : PgD) (i : Nat) : (pW p i).length = i * 3 := by
  induction i with
  | zero => rfl
  | succ i ih => show (pW p i ++ _).length = _; rw [List.length_append, ih]; show i * 3 + 3 = _; omega
theorem pW_get (p : PgD) : ∀ (n j : Nat), j < n → (pW p n)[j * 3]? = some (.slice (p.Ca j) (p.Ln j) (p.Kc j)) ∧ (pW p n)[j * 3 + 1]? = some (.int .i64 (p.Kd j)) ∧ (pW p n)[j * 3 + 2]? = some (.int .i64 (p.Rt j)) := by
  intro n
  induction n with
  | zero => intro j h; omega
  | succ n ih =>
    intro j h
    show (pW p n ++ _)[j * 3]? = _ ∧ (pW p n ++ _)[j * 3 + 1]? = _ ∧ (pW p n ++ _)[j * 3 + 2]? = _
    have hl := pW_len p n
    by_cases e : j < n
    · have := ih j e
      rw [List.getElem?_append_left (by omega), List.getElem?_append_left (by omega), List.getElem?_append_left (by omega)]
      exact this
    · have e : j = n := by omega
      subst e
      rw [List.getElem?_append_right (by omega), List.getElem?_append_right (by omega), List.getElem?_append_right (by omega), hl, show j * 3 - j * 3 = 0 by omega, show j * 3 + 1 - j * 3 = 1 by omega, show j * 3 + 2 - j * 3 = 2 by omega]
      exact ⟨rfl, rfl, rfl⟩
theorem pW_cells {p : PgD} {W : World} {g o : Nat} {m : Nat} (h : ∀ i, i < m → W.cell? ⟨g, o + i * 3, none⟩ = some (.slice (p.Ca i) (p.Ln i) (p.Kc i)) ∧ W.cell? ⟨g, o + i * 3 + 1, none⟩ = some (.int .i64 (p.Kd i)) ∧ W.cell? ⟨g, o + i * 3 + 2, none⟩ = some (.int .i64 (p.Rt i))) :
    ∀ j u, (pW p m)[j]? = some u → W.cell? ⟨g, o + j, none⟩ = some u := fun j u hu => by
  have hj : j < m * 3 := by
    rcases Nat.lt_or_ge j (m * 3) with q | q
    · exact q
    · rw [List.getElem?_eq_none (by rw [pW_len]; exact q)] at hu; cases hu
  have hd : j / 3 < m := by omega
  have hg := pW_get p m (j / 3) hd
  have hc := h (j / 3) hd
  have hm : j % 3 = 0 ∨ j % 3 = 1 ∨ j % 3 = 2 := by omega
  rcases hm with e | e | e
  · have ej : j = j / 3 * 3 := by omega
    rw [ej] at hu ⊢
    rw [hg.1] at hu
    rw [hc.1, ← hu]
  · have ej : j = j / 3 * 3 + 1 := by omega
    rw [ej] at hu ⊢
    rw [hg.2.1] at hu
    rw [← Nat.add_assoc, hc.2.1, ← hu]
  · have ej : j = j / 3 * 3 + 2 := by omega
    rw [ej] at hu ⊢
    rw [hg.2.2] at hu
    rw [← Nat.add_assoc, hc.2.2, ← hu]
theorem pW_one (p : PgD) (m : Nat) : ∀ u ∈ pW p m, u.oneCell' = true := by
  induction m with
  | zero => intro u hu; cases hu
  | succ m ih =>
    intro u hu
    rcases List.mem_append.1 hu with h | h
    · exact ih u h
    · simp at h
      rcases h with h | h | h <;> subst h <;> rfl
set_option maxHeartbeats 1000000 in
set_option maxRecDepth 100000 in
theorem Clone_zeroR (a : Addr) (c : Nat) (w : World) :
    Calls Try.prog 21 #[.slice (some a) 0 c] w fun e w' => Below w.heap.size w w' ∧ ∃ v, e = .returned v ∧ w'.ownsRow w.heap.size 50 3 v 0 [] := by
  obtain ⟨i0, hi, hz0, hz1, hz2⟩ := info_parts (show (Try.prog.info? 50).map (fun i => (i.zero, i.size, i.bytes)) = some (some (Value.agg #[.slice none 0 0, .int .i64 0, .int .i64 0]), 3, 40) by kernel_rfl)
  have qs : ∀ (w : World) (a : Option Addr) (n c n' c' : Nat), (binOp .eql 23 (.slice a n c) (.slice none n' c')).run Try.prog w = .ok (.bool a.isNone) w := fun w a n c n' c' => Lib.run_eql_slice_nil w _ _ a n c n' c' Try.underlying23
  go_enter Try.func21, Try.ntmps21
  go_wp2_with (at_builtin; refine wpList_append_own _ rfl _ _ 23 rfl w.heap.size 50 i0 (.agg #[.slice none 0 0, .int .i64 0, .int .i64 0]) 3 40 Try.underlying23 hi hz0 hz1 hz2 rfl (by decide) _ _ _ rfl (World.ownsRow_made w #[] 0 (Nat.le_refl _) (Nat.zero_le _) (by simp)) a 0 c [] rfl rfl (by intro j u hj; simp at hj) (by intro u hu; cases hu) (by unfold maxLen; omega) (by omega) (by simp) ?_)
  intro v' w1 hown hgrow hnil
  go_wp2
  go_ret
  have hb : Below w.heap.size w w1 := ((Below.refl _ w).alloc (Nat.le_refl _) _).grown hgrow (by simp) (by intro k hk; simp [Value.ownBlock] at hk; omega)
  exact ⟨hb, v', rfl, by simpa using hown⟩
theorem clone_prog (p : PgD) (w : World) (hp : p.At w) (hm : p.m ≤ 1000) :
    Calls Try.prog 21 #[.slice p.ra p.m p.rc] w fun e w' => Below w.heap.size w w' ∧ ∃ v, e = .returned v ∧ w'.ownsRow w.heap.size 50 3 v p.m (pW p p.m) := by
  by_cases h0 : p.m = 0
  · rw [h0]
    cases hra : p.ra with
    | none =>
      refine (show Calls Try.prog 21 _ _ _ from AnyE.slices_Clone_nil Try.layCloneR 0 p.rc w).mono ?_
      rintro e w' ⟨rfl, rfl⟩
      exact ⟨Below.refl _ _, _, rfl, rfl, .inl ⟨rfl, rfl⟩⟩
    | some a => exact Clone_zeroR a p.rc w
  · obtain ⟨g, o, hra, hg, hc⟩ := hp.rows (by omega)
    obtain ⟨i0, hi, hz0, hz1, hz2⟩ := info_parts (show (Try.prog.info? 50).map (fun i => (i.zero, i.size, i.bytes)) = some (some (Value.agg #[.slice none 0 0, .int .i64 0, .int .i64 0]), 3, 40) by kernel_rfl)
    rw [hra]
    refine (show Calls Try.prog 21 _ _ _ from AnyE.slices_Clone Try.layCloneR i0 (.agg #[.slice none 0 0, .int .i64 0, .int .i64 0]) 3 40 hi hz0 hz1 hz2 rfl (by decide) Try.sizeOf50 g o p.m p.rc (pW p p.m) w (pW_len p p.m) (by unfold maxLen; omega) (by omega) (pW_cells hc) (pW_one p p.m)).mono ?_
    rintro e w' ⟨v, rfl, ho, _, hb⟩
    exact ⟨hb, v, rfl, ho⟩

/-! ### Programs turned -/
structure RvP (p t : PgD) : Prop where
  n : t.n = p.n
  m : t.m = p.m
  c : ∀ j, j < p.n → t.C j = p.C (p.n - 1 - j)
  k : ∀ i, i < p.m → t.Kd i = p.Kd (p.m - 1 - i)
  r : ∀ i, i < p.m → t.Rt i = p.Rt (p.m - 1 - i)
  l : ∀ i, i < p.m → t.Ln i = p.Ln (p.m - 1 - i)
  z : ∀ i, i < p.m → ∀ j, j < p.Ln (p.m - 1 - i) → t.Z i j = p.Z (p.m - 1 - i) (p.Ln (p.m - 1 - i) - 1 - j)
theorem RvP.symm {p t : PgD} (h : RvP p t) : RvP t p where
  n := h.n.symm
  m := h.m.symm
  c := fun j hj => by
    rw [h.n] at hj ⊢
    rw [h.c (p.n - 1 - j) (by omega)]; congr 1; omega
  k := fun i hi => by
    rw [h.m] at hi ⊢
    rw [h.k (p.m - 1 - i) (by omega)]; congr 1; omega
  r := fun i hi => by
    rw [h.m] at hi ⊢
    rw [h.r (p.m - 1 - i) (by omega)]; congr 1; omega
  l := fun i hi => by
    rw [h.m] at hi ⊢
    rw [h.l (p.m - 1 - i) (by omega)]; congr 1; omega
  z := fun i hi j hj => by
    rw [h.m] at hi hj ⊢
    have e : p.m - 1 - (p.m - 1 - i) = i := by omega
    have hl := h.l (p.m - 1 - i) (by omega)
    rw [e] at hl
    rw [hl] at hj ⊢
    rw [h.z (p.m - 1 - i) (by omega) (p.Ln i - 1 - j) (by rw [e]; omega), e]
    congr 1; omega
theorem sumN_rev (n : Nat) (f : Nat → Int) : sumN n (fun j => f (n - 1 - j)) = sumN n f := by
  induction n with
  | zero => rfl
  | succ n ih =>
    have h1 : sumN (n + 1) (fun j => f (n + 1 - 1 - j)) = sumN (1 + n) (fun j => f (n - j)) := by rw [Nat.add_comm n 1]; exact sumN_congr fun j _ => by congr 1; omega
    rw [h1, sumN_app]
    show (0 + f (n - 0)) + sumN n (fun i => f (n - (1 + i))) = sumN n f + f n
    have h2 : sumN n (fun i => f (n - (1 + i))) = sumN n fun j => f (n - 1 - j) := sumN_congr fun j _ => by congr 1; omega
    rw [h2, ih, Nat.sub_zero]; omega
theorem prodN_cut1 (f : Nat → Int) : ∀ n, prodN (n + 1) f = f 0 * prodN n (fun i => f (i + 1)) := by
  intro n
  induction n with
  | zero => show (1 : Int) * f 0 = f 0 * 1; omega
  | succ n ih =>
    show prodN (n + 1) f * f (n + 1) = f 0 * (prodN n (fun i => f (i + 1)) * f (n + 1))
    rw [ih, Int.mul_assoc]
theorem prodN_same {f g : Nat → Int} : ∀ n, (∀ i, i < n → f i = g i) → prodN n f = prodN n g := by
  intro n
  induction n with
  | zero => intro _; rfl
  | succ n ih => intro h; show prodN n f * f n = prodN n g * g n; rw [ih fun i hi => h i (by omega), h n (by omega)]
theorem prodN_rev (n : Nat) (f : Nat → Int) : prodN n (fun j => f (n - 1 - j)) = prodN n f := by
  induction n with
  | zero => rfl
  | succ n ih =>
    rw [prodN_cut1]
    show f (n + 1 - 1 - 0) * prodN n (fun i => f (n + 1 - 1 - (i + 1))) = prodN n f * f n
    have h2 : prodN n (fun i => f (n + 1 - 1 - (i + 1))) = prodN n (fun j => f (n - 1 - j)) := prodN_same n fun j _ => by congr 1; omega
    rw [h2, ih, Int.mul_comm]
    congr 1
section
variable {p t : PgD}
theorem rv_ok (h : RvP p t) (hv : p.Ok) : t.Ok where
  n1 := by rw [h.n]; exact hv.n1
  n2 := by rw [h.n]; exact hv.n2
  m2 := by rw [h.m]; exact hv.m2
  c := fun j hj => by rw [h.n] at hj; rw [h.c j hj]; exact hv.c _ (by omega)
  l := fun i hi => by rw [h.m] at hi; rw [h.l i hi, h.n]; exact hv.l _ (by omega)
  z := fun i hi j hj => by
    rw [h.m] at hi; rw [h.n] at hj
    have hl := hv.l (p.m - 1 - i) (by omega)
    rw [h.z i hi j (by omega)]
    exact hv.z _ (by omega) _ (by omega)
  k := fun i hi => by rw [h.m] at hi; rw [h.k i hi]; exact hv.k _ (by omega)
  r := fun i hi => by rw [h.m] at hi; rw [h.r i hi]; exact hv.r _ (by omega)
theorem rv_z (h : RvP p t) (hv : p.Ok) {i j : Nat} (hi : i < p.m) (hj : j < p.n) : t.Z i j = p.Z (p.m - 1 - i) (p.n - 1 - j) := by
  have hl := hv.l (p.m - 1 - i) (by omega)
  rw [h.z i hi j (by omega), hl]
theorem rv_fac (h : RvP p t) (hv : p.Ok) : facP t 0 = facP p 0 ∧ ∀ i, i < p.m → facP t (i + 1) = facP p (p.m - 1 - i + 1) := by
  refine ⟨?_, fun i hi => ?_⟩
  · show 1 + absS t.n t.C = 1 + absS p.n p.C
    rw [h.n]
    unfold absS
    rw [← sumN_rev p.n fun j => ((p.C j).natAbs : Int)]
    congr 1
    exact sumN_congr fun j hj => by rw [h.c j hj]
  · show 1 + absS t.n (t.Z i) + ((t.Rt i).natAbs : Int) = 1 + absS p.n (p.Z (p.m - 1 - i)) + ((p.Rt (p.m - 1 - i)).natAbs : Int)
    rw [h.n, h.r i hi]
    unfold absS
    rw [← sumN_rev p.n fun j => ((p.Z (p.m - 1 - i) j).natAbs : Int)]
    congr 2
    exact sumN_congr fun j hj => by rw [rv_z h hv hi hj]
theorem rv_fit (h : RvP p t) (hv : p.Ok) (hf : FitP p) : FitP t := by
  obtain ⟨f0, f1⟩ := rv_fac h hv
  have hp : prodN (t.m + 1) (facP t) = prodN (p.m + 1) (facP p) := by
    rw [h.m, prodN_cut1, prodN_cut1, f0, ← prodN_rev p.m fun i => facP p (i + 1)]
    congr 1
    exact prodN_same _ fun i hi => f1 i hi
  refine ⟨by rw [hp]; exact hf.1, fun l hl => ?_⟩
  rw [hp]
  rw [h.m] at hl
  match l, hl with
  | 0, _ => rw [f0]; exact hf.2 0 (by omega)
  | l + 1, hl => rw [f1 l (by omega)]; exact hf.2 _ (by omega)
theorem rv_row (h : RvP p t) (hv : p.Ok) (x : Nat → Int) {i : Nat} (hi : i < p.m) : (sumN t.n fun j => t.Z i j * x (p.n - 1 - j)) = sumN p.n fun j => p.Z (p.m - 1 - i) j * x j := by
  rw [h.n, ← sumN_rev p.n fun j => p.Z (p.m - 1 - i) j * x j]
  exact sumN_congr fun j hj => by rw [rv_z h hv hi hj]
theorem rv_val (h : RvP p t) (x : Nat → Int) : valP t (fun j => x (p.n - 1 - j)) = valP p x := by
  unfold valP
  rw [h.n, ← sumN_rev p.n fun j => p.C j * x j]
  exact sumN_congr fun j hj => by rw [h.c j hj]
theorem rv_fea (h : RvP p t) (hv : p.Ok) {d : Int} {x : Nat → Int} (hx : FeaP p d x) : FeaP t d (fun j => x (p.n - 1 - j)) := by
  refine ⟨fun j hj => hx.nn _ (by rw [h.n] at hj; omega), fun i hi => ?_⟩
  rw [h.m] at hi
  rw [rv_row h hv x hi, h.k i hi, h.r i hi]
  exact hx.row _ (by omega)
theorem rv_ray (h : RvP p t) (hv : p.Ok) {x : Nat → Int} (hx : RayP p x) : RayP t (fun j => x (p.n - 1 - j)) := by
  refine ⟨fun j hj => hx.nn _ (by rw [h.n] at hj; omega), fun i hi => ?_, by rw [rv_val h]; exact hx.neg⟩
  rw [h.m] at hi
  rw [rv_row h hv x hi, h.k i hi]
  exact hx.row _ (by omega)
theorem rv_col (h : RvP p t) (hv : p.Ok) (y : Nat → Int) {j : Nat} (hj : j < p.n) : colP t (fun i => y (p.m - 1 - i)) j = colP p y (p.n - 1 - j) := by
  unfold colP
  rw [h.m, ← sumN_rev p.m fun i => p.Z i (p.n - 1 - j) * y i]
  exact sumN_congr fun i hi => by rw [rv_z h hv hi hj]
theorem rv_rgt (h : RvP p t) {y : Nat → Int} (hy : RgtP p y) : RgtP t (fun i => y (p.m - 1 - i)) := fun i hi => by
  rw [h.m] at hi
  rw [h.k i hi]
  exact hy _ (by omega)
theorem rv_prov (h : RvP p t) (hv : p.Ok) {e : Int} {y : Nat → Int} (hy : ProvP p e y) : ProvP t e (fun i => y (p.m - 1 - i)) := by
  refine ⟨rv_rgt h hy.rgt, fun j hj => ?_⟩
  rw [h.n] at hj
  rw [rv_col h hv y hj, h.c j hj]
  exact hy.col _ (by omega)
theorem rv_refu (h : RvP p t) (hv : p.Ok) {y : Nat → Int} (hy : RefuP p y) : RefuP t (fun i => y (p.m - 1 - i)) := by
  refine ⟨rv_rgt h hy.rgt, fun j hj => ?_, ?_⟩
  · rw [h.n] at hj
    rw [rv_col h hv y hj]
    exact hy.col _ (by omega)
  · unfold rgtV
    have e : (sumN t.m fun i => t.Rt i * y (p.m - 1 - i)) = sumN p.m fun i => p.Rt i * y i := by
      rw [h.m, ← sumN_rev p.m fun i => p.Rt i * y i]
      exact sumN_congr fun i hi => by rw [h.r i hi]
    rw [e]
    exact hy.pos
end
theorem shF_cross {a D c E : Int} (hD : 0 < D) (hE : 0 < E) (h : a * E = c * D) : shF a D = shF c E := by
  unfold shF
  rw [make_redT hD, make_redT hE, redT_eq hD hE h]
theorem pos_opt {p : PgD} {b : Nat → Nat} (ho : OptP p b) : 0 < dP p b := ddP_pos ho.rel.good.nz
/-- A program and the turned one have the same least value. -/
theorem rv_value {p t : PgD} (h : RvP p t) (hv : p.Ok) {b c : Nat → Nat} (ho : OptP p b) (hc : OptP t c) : shF (valP p (xP p b)) (dP p b) = shF (valP t (xP t c)) (dP t c) := by
  have ht := rv_ok h hv
  have pD := pos_opt ho
  have tD := pos_opt hc
  have h1 := (opt_is hv ho tD pD (rv_fea h.symm ht (xP_fea ht hc.rel)) (y_prov ho.zz)).2
  have h2 := (opt_is ht hc pD tD (rv_fea h hv (xP_fea hv ho.rel)) (y_prov hc.zz)).2
  rw [rv_val h.symm] at h1
  rw [rv_val h] at h2
  refine shF_cross pD tD ?_
  have e1 : dP p b * valP t (xP t c) = valP t (xP t c) * dP p b := Int.mul_comm _ _
  have e2 : dP t c * valP p (xP p b) = valP p (xP p b) * dP t c := Int.mul_comm _ _
  rw [e1] at h1
  rw [e2] at h2
  omega
theorem aV_two {v : Int × Int} {x y x2 y2 : Value} {a d : Int} (h : aV v x y = .agg #[.int .i64 a, .int .i64 d, x2, y2]) : v = (a, d) := by
  unfold aV at h
  injection h with h
  injection h with h
  simp only [List.cons.injEq, Value.int.injEq, true_and] at h
  obtain ⟨h1, h2, _⟩ := h
  obtain ⟨v1, v2⟩ := v
  simp only at h1 h2
  rw [h1, h2]
theorem rv_sol {p t : PgD} (h : RvP p t) {B B2 : Nat} {W W2 : World} {vl vl2 : Value} {er er2 : Int} (s : SolO p B W vl er) (k : SolO t B2 W2 vl2 er2) :
    er = er2 ∧ ∀ a d a2 d2, (∃ x y, vl = .agg #[.int .i64 a, .int .i64 d, x, y]) → (∃ x y, vl2 = .agg #[.int .i64 a2, .int .i64 d2, x, y]) → a = a2 ∧ d = d2 := by
  have zz : ∀ a d a2 d2, (∃ x y, aV (0, 0) (.slice none 0 0) (.slice none 0 0) = .agg #[.int .i64 a, .int .i64 d, x, y]) → (∃ x y, aV (0, 0) (.slice none 0 0) (.slice none 0 0) = .agg #[.int .i64 a2, .int .i64 d2, x, y]) → a = a2 ∧ d = d2 := by
    rintro a d a2 d2 ⟨x, y, e⟩ ⟨x2, y2, e2⟩
    have g := aV_two e
    have g2 := aV_two e2
    rw [g] at g2
    injection g2 with g3 g4
    exact ⟨g3, g4⟩
  rcases s with ⟨e, ho, hvl⟩ | ⟨e, ho, hf, hvl⟩ | ⟨e, ho, hf, ⟨y, hy⟩, hvl⟩ | ⟨e, ho, hf, ⟨b, hb⟩, ⟨r, hr⟩, hvl⟩ | ⟨e, ho, hf, b, xb, yb, hb, hvl, _⟩
  · rcases k with ⟨e2, _, h2⟩ | ⟨_, h2, _⟩ | ⟨_, h2, _⟩ | ⟨_, h2, _⟩ | ⟨_, h2, _⟩
    · exact ⟨by omega, by rw [hvl, h2]; exact zz⟩
    · exact absurd (rv_ok h.symm h2) ho
    · exact absurd (rv_ok h.symm h2) ho
    · exact absurd (rv_ok h.symm h2) ho
    · exact absurd (rv_ok h.symm h2) ho
  · have ht := rv_ok h ho
    rcases k with ⟨_, h2, _⟩ | ⟨e2, _, _, h2⟩ | ⟨_, _, h2, _⟩ | ⟨_, _, h2, _⟩ | ⟨_, _, h2, _⟩
    · exact absurd ht h2
    · exact ⟨by omega, by rw [hvl, h2]; exact zz⟩
    · exact absurd (rv_fit h.symm ht h2) hf
    · exact absurd (rv_fit h.symm ht h2) hf
    · exact absurd (rv_fit h.symm ht h2) hf
  · have ht := rv_ok h ho
    rcases k with ⟨_, h2, _⟩ | ⟨_, _, h2, _⟩ | ⟨e2, _, _, _, h2⟩ | ⟨_, _, _, ⟨c, hc⟩, _⟩ | ⟨_, _, _, c, _, _, hc, _⟩
    · exact absurd ht h2
    · exact absurd (rv_fit h ho hf) h2
    · exact ⟨by omega, by rw [hvl, h2]; exact zz⟩
    · exact (no_refute ho (ddP_pos hc.good.nz) (rv_fea h.symm ht (xP_fea ht hc)) hy).elim
    · exact (no_refute ho (ddP_pos hc.rel.good.nz) (rv_fea h.symm ht (xP_fea ht hc.rel)) hy).elim
  · have ht := rv_ok h ho
    rcases k with ⟨_, h2, _⟩ | ⟨_, _, h2, _⟩ | ⟨_, _, _, ⟨y2, hy2⟩, _⟩ | ⟨e2, _, _, _, _, h2⟩ | ⟨_, _, _, c, _, _, hc, _⟩
    · exact absurd ht h2
    · exact absurd (rv_fit h ho hf) h2
    · exact (no_refute ht (ddP_pos hb.good.nz) (rv_fea h ho (xP_fea ho hb)) hy2).elim
    · exact ⟨by omega, by rw [hvl, h2]; exact zz⟩
    · exact (no_ray ht (ddP_pos hc.rel.good.nz) (rv_ray h ho hr) (y_prov hc.zz)).elim
  · have ht := rv_ok h ho
    rcases k with ⟨_, h2, _⟩ | ⟨_, _, h2, _⟩ | ⟨_, _, _, ⟨y2, hy2⟩, _⟩ | ⟨_, _, _, _, ⟨r, hr⟩, _⟩ | ⟨e2, _, hf2, c, _, _, hc, hvl2, _⟩
    · exact absurd ht h2
    · exact absurd (rv_fit h ho hf) h2
    · exact (no_refute ht (ddP_pos hb.rel.good.nz) (rv_fea h ho (xP_fea ho hb.rel)) hy2).elim
    · exact (no_ray ho (ddP_pos hb.rel.good.nz) (rv_ray h.symm ht hr) (y_prov hb.zz)).elim
    · refine ⟨by omega, ?_⟩
      rintro a d a2 d2 ⟨x, y, e3⟩ ⟨x2, y2, e4⟩
      have g1 := aV_two (hvl.symm.trans e3)
      have g2 := aV_two (hvl2.symm.trans e4)
      have g3 := rv_value h ho hb hc
      rw [g1, g2] at g3
      injection g3 with g4 g5
      exact ⟨g4, g5⟩

/-! ### A row more -/
structure MoP (p q : PgD) : Prop where
  n : q.n = p.n
  m : q.m = p.m + 1
  c : ∀ j, j < p.n → q.C j = p.C j
  k : ∀ i, i < p.m → q.Kd i = p.Kd i
  r : ∀ i, i < p.m → q.Rt i = p.Rt i
  l : ∀ i, i < p.m → q.Ln i = p.Ln i
  z : ∀ i, i < p.m → ∀ j, j < p.Ln i → q.Z i j = p.Z i j
section
variable {p q : PgD}
theorem mo_ok (h : MoP p q) (hq : q.Ok) : p.Ok where
  n1 := by have := hq.n1; rw [h.n] at this; exact this
  n2 := by have := hq.n2; rw [h.n] at this; exact this
  m2 := by have := hq.m2; rw [h.m] at this; omega
  c := fun j hj => by rw [← h.c j hj]; exact hq.c j (by rw [h.n]; exact hj)
  l := fun i hi => by rw [← h.l i hi, ← h.n]; exact hq.l i (by rw [h.m]; omega)
  z := fun i hi j hj => by
    have hl := hq.l i (by rw [h.m]; omega)
    rw [h.l i hi, h.n] at hl
    rw [← h.z i hi j (by omega)]
    exact hq.z i (by rw [h.m]; omega) j (by rw [h.n]; exact hj)
  k := fun i hi => by rw [← h.k i hi]; exact hq.k i (by rw [h.m]; omega)
  r := fun i hi => by rw [← h.r i hi]; exact hq.r i (by rw [h.m]; omega)
theorem mo_z (h : MoP p q) (hp : p.Ok) {i j : Nat} (hi : i < p.m) (hj : j < p.n) : q.Z i j = p.Z i j := h.z i hi j (by rw [hp.l i hi]; exact hj)
theorem mo_fit (h : MoP p q) (hq : q.Ok) (hf : FitP q) : FitP p := by
  have hp := mo_ok h hq
  have hfac : ∀ l, l < p.m + 1 → facP q l = facP p l := fun l hl => by
    match l, hl with
    | 0, _ =>
      show 1 + absS q.n q.C = 1 + absS p.n p.C
      rw [h.n]
      congr 1
      exact sumN_congr fun j hj => by rw [h.c j hj]
    | l + 1, hl =>
      show 1 + absS q.n (q.Z l) + ((q.Rt l).natAbs : Int) = 1 + absS p.n (p.Z l) + ((p.Rt l).natAbs : Int)
      rw [h.n, h.r l (by omega)]
      congr 2
      exact sumN_congr fun j hj => by rw [mo_z h hp (by omega) hj]
  have h1 : prodN (p.m + 1) (facP q) = prodN (p.m + 1) (facP p) := prodN_same _ hfac
  have h2 : prodN (q.m + 1) (facP q) = prodN (p.m + 1) (facP p) * facP q (p.m + 1) := by
    rw [h.m]
    show prodN (p.m + 1) (facP q) * _ = _
    rw [h1]
  have hb := (facP_bd hq (p.m + 1) (by rw [h.m]; omega)).1
  have hpos : 0 ≤ prodN (p.m + 1) (facP p) := by have := prod_pos (f := facP p) (n := p.m + 1) (facP_bd hp) (p.m + 1) (Nat.le_refl _); omega
  have hle : prodN (p.m + 1) (facP p) ≤ prodN (q.m + 1) (facP q) := by
    rw [h2]
    have := Int.mul_le_mul_of_nonneg_left hb hpos
    omega
  refine ⟨by have := hf.1; omega, fun l hl => ?_⟩
  have h3 := hf.2 l (by rw [h.m]; omega)
  rw [hfac l hl] at h3
  have hl1 := (facP_bd hp l hl).1
  have := Int.mul_le_mul_of_nonneg_right hle (show 0 ≤ facP p l by omega)
  omega
theorem mo_row (h : MoP p q) (hp : p.Ok) (x : Nat → Int) {i : Nat} (hi : i < p.m) : (sumN q.n fun j => q.Z i j * x j) = sumN p.n fun j => p.Z i j * x j := by
  rw [h.n]
  exact sumN_congr fun j hj => by rw [mo_z h hp hi hj]
theorem mo_val (h : MoP p q) (x : Nat → Int) : valP q x = valP p x := by
  unfold valP
  rw [h.n]
  exact sumN_congr fun j hj => by rw [h.c j hj]
theorem mo_fea (h : MoP p q) (hp : p.Ok) {d : Int} {x : Nat → Int} (hx : FeaP q d x) : FeaP p d x := by
  refine ⟨fun j hj => hx.nn j (by rw [h.n]; exact hj), fun i hi => ?_⟩
  have := hx.row i (by rw [h.m]; omega)
  rw [mo_row h hp x hi, h.k i hi, h.r i hi] at this
  exact this
theorem mo_ray (h : MoP p q) (hp : p.Ok) {x : Nat → Int} (hx : RayP q x) : RayP p x := by
  refine ⟨fun j hj => hx.nn j (by rw [h.n]; exact hj), fun i hi => ?_, by rw [← mo_val h]; exact hx.neg⟩
  have := hx.row i (by rw [h.m]; omega)
  rw [mo_row h hp x hi, h.k i hi] at this
  exact this
end
theorem val_sol {p : PgD} (hv : p.Ok) (hf : FitP p) {b : Nat → Nat} (ho : OptP p b) : Vld (shF (valP p (xP p b)) (dP p b)).1 (shF (valP p (xP p b)) (dP p b)).2 ∧ (shF (valP p (xP p b)) (dP p b)).1 * dP p b = valP p (xP p b) * (shF (valP p (xP p b)) (dP p b)).2 := by
  have hd := dP_bd hv hf ho.rel.good
  have hb := fit_bd hv hf
  have cst := x_sums hv hf ho.rel.good p.C (fun j hj => by have := hv.c j hj; omega) (by omega)
  exact shF_val (valP p (xP p b)) (dP p b) (by omega) cst.2 ⟨by omega, hd.2⟩
/-- What Solve answers to a program, and to it with a row more. -/
theorem mo_sol {p q : PgD} (h : MoP p q) {B B2 : Nat} {W W2 : World} {vl vl2 : Value} {er er2 : Int} (s : SolO p B W vl er) (k : SolO q B2 W2 vl2 er2) :
    ((er2 = 1 ∨ er2 = 5) ∧ vl2 = aV (0, 0) (.slice none 0 0) (.slice none 0 0)) ∨ (er = 22 ∧ er2 = 22) ∨ (er = 0 ∧ er2 = 22) ∨ (er = 21 ∧ er2 ≠ 1 ∧ er2 ≠ 5) ∨
    (er = 0 ∧ er2 = 0 ∧ ∀ a d a2 d2, (∃ x y, vl = .agg #[.int .i64 a, .int .i64 d, x, y]) → (∃ x y, vl2 = .agg #[.int .i64 a2, .int .i64 d2, x, y]) → Vld a d ∧ Vld a2 d2 ∧ sgn (a * d2 + -a2 * d) ≤ 0) := by
  rcases k with ⟨e2, _, h2⟩ | ⟨e2, _, _, h2⟩ | ⟨e2, hq, hf, ⟨y, hy⟩, _⟩ | ⟨e2, hq, hf, ⟨c, hc⟩, ⟨r, hr⟩, _⟩ | ⟨e2, hq, hf, c, _, _, hc, hvl2, _⟩
  · exact .inl ⟨.inl e2, h2⟩
  · exact .inl ⟨.inr e2, h2⟩
  · have hp := mo_ok h hq
    have hpf := mo_fit h hq hf
    rcases s with ⟨_, h1, _⟩ | ⟨_, _, h1, _⟩ | ⟨e, _⟩ | ⟨e, _⟩ | ⟨e, _⟩
    · exact absurd hp h1
    · exact absurd hpf h1
    · exact .inr (.inl ⟨e, e2⟩)
    · exact .inr (.inr (.inr (.inl ⟨e, by omega, by omega⟩)))
    · exact .inr (.inr (.inl ⟨e, e2⟩))
  · have hp := mo_ok h hq
    have hpf := mo_fit h hq hf
    rcases s with ⟨_, h1, _⟩ | ⟨_, _, h1, _⟩ | ⟨e, _, _, ⟨y, hy⟩, _⟩ | ⟨e, _⟩ | ⟨e, _, _, b, _, _, hb, _⟩
    · exact absurd hp h1
    · exact absurd hpf h1
    · exact (no_refute hp (ddP_pos hc.good.nz) (mo_fea h hp (xP_fea hq hc)) hy).elim
    · exact .inr (.inr (.inr (.inl ⟨e, by omega, by omega⟩)))
    · exact (no_ray hp (ddP_pos hb.rel.good.nz) (mo_ray h hp hr) (y_prov hb.zz)).elim
  · have hp := mo_ok h hq
    have hpf := mo_fit h hq hf
    rcases s with ⟨_, h1, _⟩ | ⟨_, _, h1, _⟩ | ⟨e, _, _, ⟨y, hy⟩, _⟩ | ⟨e, _⟩ | ⟨e, _, _, b, _, _, hb, hvl, _⟩
    · exact absurd hp h1
    · exact absurd hpf h1
    · exact (no_refute hp (ddP_pos hc.rel.good.nz) (mo_fea h hp (xP_fea hq hc.rel)) hy).elim
    · exact .inr (.inr (.inr (.inl ⟨e, by omega, by omega⟩)))
    · refine .inr (.inr (.inr (.inr ⟨e, e2, ?_⟩)))
      rintro a d a2 d2 ⟨x, y, e3⟩ ⟨x2, y2, e4⟩
      have v2 := val_sol hq hf hc
      have hs : (shF (valP q (xP q c)) (dP q c)).1 * dP q c = valP p (xP q c) * (shF (valP q (xP q c)) (dP q c)).2 := by
        have e := mo_val h (xP q c)
        have h2 := v2.2
        generalize shF (valP q (xP q c)) (dP q c) = s at h2 ⊢
        rw [e] at h2
        exact h2
      have hbt := beats hp hpf hb (pos_opt hc) (mo_fea h hp (xP_fea hq hc.rel)) v2.1 hs
      have g1 := aV_two (hvl.symm.trans e3)
      have g2 := aV_two (hvl2.symm.trans e4)
      rw [g1, g2] at hbt
      rw [g2] at v2
      exact ⟨hbt.1, v2.1, hbt.2⟩
end Go.Proofs.Ytdbmlkkpffoadaa

namespace Go.Proofs.Ytdbmlkkpffoadaa
set_option linter.unusedVariables false
open Go.RowKit Go.Shelf

/-- The turned rows, cell by cell. -/
def mW (p : PgD) (GA : Nat → Option Addr) (KA : Nat → Nat) : Nat → List Value
  | 0 => []
  | i + 1 => [Value.slice (GA i) (p.Ln i) (KA i), .int .i64 (p.Kd i), .int .i64 (p.Rt i)] ++ mW p GA KA i
theorem mW_len (p : PgD) (GA : Nat → Option Addr) (KA : Nat → Nat) (i : Nat) : (mW p GA KA i).length = i * 3 := by
  induction i with
  | zero => rfl
  | succ i ih => show (_ ++ mW p GA KA i).length = _; rw [List.length_append, ih]; show 3 + i * 3 = _; omega
theorem mW_congr (p : PgD) {GA GB : Nat → Option Addr} {KA KB : Nat → Nat} (i : Nat) (h : ∀ l, l < i → GB l = GA l ∧ KB l = KA l) : mW p GB KB i = mW p GA KA i := by
  induction i with
  | zero => rfl
  | succ i ih =>
    show _ ++ mW p GB KB i = _ ++ mW p GA KA i
    rw [ih fun l hl => h l (by omega), (h i (by omega)).1, (h i (by omega)).2]
theorem mW_get (p : PgD) (GA : Nat → Option Addr) (KA : Nat → Nat) : ∀ (n k : Nat), k < n → (mW p GA KA n)[k * 3]? = some (.slice (GA (n - 1 - k)) (p.Ln (n - 1 - k)) (KA (n - 1 - k))) ∧ (mW p GA KA n)[k * 3 + 1]? = some (.int .i64 (p.Kd (n - 1 - k))) ∧ (mW p GA KA n)[k * 3 + 2]? = some (.int .i64 (p.Rt (n - 1 - k))) := by
  intro n
  induction n with
  | zero => intro k h; omega
  | succ n ih =>
    intro k h
    have e : mW p GA KA (n + 1) = [Value.slice (GA n) (p.Ln n) (KA n), .int .i64 (p.Kd n), .int .i64 (p.Rt n)] ++ mW p GA KA n := rfl
    rw [e]
    match k, h with
    | 0, _ =>
      rw [show n + 1 - 1 - 0 = n by omega]
      exact ⟨rfl, rfl, rfl⟩
    | k + 1, h =>
      have hk := ih k (by omega)
      rw [show n + 1 - 1 - (k + 1) = n - 1 - k by omega]
      rw [List.getElem?_append_right (by simp; omega), List.getElem?_append_right (by simp; omega), List.getElem?_append_right (by simp; omega)]
      simp only [List.length_cons, List.length_nil]
      rw [show (k + 1) * 3 - (0 + 1 + 1 + 1) = k * 3 by omega, show (k + 1) * 3 + 1 - (0 + 1 + 1 + 1) = k * 3 + 1 by omega, show (k + 1) * 3 + 2 - (0 + 1 + 1 + 1) = k * 3 + 2 by omega]
      exact hk
theorem mW_one (p : PgD) (GA : Nat → Option Addr) (KA : Nat → Nat) (m : Nat) : ∀ u ∈ mW p GA KA m, u.oneCell' = true := by
  induction m with
  | zero => intro u hu; cases hu
  | succ m ih =>
    intro u hu
    rcases List.mem_append.1 hu with h | h
    · simp at h
      rcases h with h | h | h <;> subst h <;> rfl
    · exact ih u h
/-- A turned program under way. -/
structure MrI (p : PgD) (B0 : Nat) (W : World) (tb i : Nat) (ca : Option Addr) (cc : Nat) (rv : Value) (GA : Nat → Option Addr) (KA : Nat → Nat) : Prop where
  d : Blk W tb (.slice ca p.n cc) rv
  dz : Frz W tb
  lo : B0 ≤ tb
  c : IRow W ca p.n (fun j => p.C (p.n - 1 - j))
  cn : ∀ g o, ca = some ⟨g, o, none⟩ → g ≠ tb
  e : i = 0 → rv = .slice none 0 0
  r : 0 < i → ∃ g cap, rv = .slice (some ⟨g, 0, none⟩) i cap ∧ g < W.heap.size ∧ g ≠ tb ∧ ∀ j u, (mW p GA KA i)[j]? = some u → W.cell? ⟨g, j, none⟩ = some u
  o : ∀ l, l < i → IRow W (GA l) (p.Ln l) (fun j => p.Z l (p.Ln l - 1 - j))
  on : ∀ l, l < i → ∀ g o, GA l = some ⟨g, o, none⟩ → g ≠ tb
section
variable {p : PgD} {B0 : Nat} {W W2 : World} {tb i : Nat} {ca : Option Addr} {cc : Nat} {rv : Value} {GA : Nat → Option Addr} {KA : Nat → Nat}
theorem MrI.go (h : MrI p B0 W tb i ca cc rv GA KA) (hb : Below W.heap.size W W2) : MrI p B0 W2 tb i ca cc rv GA KA :=
  ⟨h.d.on hb, h.dz.on h.d.1 hb, h.lo, h.c.on hb, h.cn, h.e, fun hi => by
    obtain ⟨g, cap, e, hg, hn, hc⟩ := h.r hi
    exact ⟨g, cap, e, Nat.lt_of_lt_of_le hg hb.size, hn, fun j u hu => (hb.cell (p := ⟨g, j, none⟩) hg).trans (hc j u hu)⟩, fun l hl => (h.o l hl).on hb, h.on⟩
theorem MrI.push (h : MrI p B0 W tb i ca cc rv GA KA) {pa : Option Addr} {pc g cap : Nat} (hp : IRow W pa (p.Ln i) (fun j => p.Z i (p.Ln i - 1 - j))) (hpn : ∀ g o, pa = some ⟨g, o, none⟩ → g ≠ tb) (hg : g < W.heap.size) (hn : g ≠ tb)
    (hc : ∀ j u, ([Value.slice pa (p.Ln i) pc, .int .i64 (p.Kd i), .int .i64 (p.Rt i)] ++ mW p GA KA i)[j]? = some u → W.cell? ⟨g, j, none⟩ = some u) :
    MrI p B0 (W.setCell ⟨tb, 1, none⟩ (.slice (some ⟨g, 0, none⟩) (i + 1) cap)) tb (i + 1) ca cc (.slice (some ⟨g, 0, none⟩) (i + 1) cap) (updG GA i pa) (updG KA i pc) := by
  have hos := only_set W ⟨tb, 1, none⟩ (.slice (some ⟨g, 0, none⟩) (i + 1) cap)
  have ew : mW p (updG GA i pa) (updG KA i pc) (i + 1) = [Value.slice pa (p.Ln i) pc, .int .i64 (p.Kd i), .int .i64 (p.Rt i)] ++ mW p GA KA i := by
    show [Value.slice (updG GA i pa i) (p.Ln i) (updG KA i pc i), _, _] ++ mW p _ _ i = _
    rw [updG_same, updG_same, mW_congr p i fun l hl => ⟨updG_other (by omega), updG_other (by omega)⟩]
  refine ⟨h.d.set1, h.dz.set1, h.lo, irow_only2 h.c hos (fun g2 o2 e2 e3 => h.cn g2 o2 e2 e3), h.cn, fun e => by omega, fun _ => ⟨g, cap, rfl, by simpa using hg, hn, fun j u hu => ?_⟩, fun l hl => ?_, fun l hl => ?_⟩
  · rw [ew] at hu
    exact (hos.cell (p := ⟨g, j, none⟩) hg (fun e => hn e)).trans (hc j u hu)
  · by_cases e : l = i
    · subst e
      rw [updG_same]
      exact irow_only2 hp hos (fun g2 o2 e2 e3 => hpn g2 o2 e2 e3)
    · rw [updG_other e]
      exact irow_only2 (h.o l (by omega)) hos (fun g2 o2 e2 e3 => h.on l (by omega) g2 o2 e2 e3)
  · by_cases e : l = i
    · subst e; rw [updG_same]; exact hpn
    · rw [updG_other e]; exact h.on l (by omega)
theorem MrI.fin (h : MrI p B0 W tb p.m ca cc rv GA KA) (hs : p.Sm) : ∃ t : PgD, t.val = .agg #[.slice ca p.n cc, rv] ∧ t.At W ∧ RvP p t ∧ t.Sm := by
  by_cases h0 : p.m = 0
  · refine ⟨⟨ca, p.n, cc, fun j => p.C (p.n - 1 - j), none, 0, 0, fun _ => none, fun _ => 0, fun _ => 0, fun _ _ => 0, fun _ => 0, fun _ => 0⟩, ?_, ⟨h.c, fun hm => absurd hm (Nat.lt_irrefl 0), fun i hi => absurd hi (Nat.not_lt_zero _)⟩, ⟨rfl, h0.symm, fun _ _ => rfl, fun i hi => by omega, fun i hi => by omega, fun i hi => by omega, fun i hi => by omega⟩, ⟨hs.n, by show (0 : Nat) ≤ _; omega, fun i hi => absurd hi (Nat.not_lt_zero _)⟩⟩
    rw [h.e h0]; rfl
  · obtain ⟨g, cap, e, hg, hn, hc⟩ := h.r (by omega)
    refine ⟨⟨ca, p.n, cc, fun j => p.C (p.n - 1 - j), some ⟨g, 0, none⟩, p.m, cap, fun k => GA (p.m - 1 - k), fun k => p.Ln (p.m - 1 - k), fun k => KA (p.m - 1 - k), fun k j => p.Z (p.m - 1 - k) (p.Ln (p.m - 1 - k) - 1 - j), fun k => p.Kd (p.m - 1 - k), fun k => p.Rt (p.m - 1 - k)⟩, ?_, ⟨h.c, fun _ => ⟨g, 0, rfl, hg, fun k hk => ?_⟩, fun k hk => ?_⟩, ⟨rfl, rfl, fun _ _ => rfl, fun _ _ => rfl, fun _ _ => rfl, fun _ _ => rfl, fun _ _ _ _ => rfl⟩, ⟨hs.n, hs.m, fun k hk => hs.l _ (by have hk : k < p.m := hk; omega)⟩⟩
    · rw [e]; rfl
    · have hk : k < p.m := hk
      have := mW_get p GA KA p.m k hk
      rw [Nat.zero_add]
      exact ⟨hc _ _ this.1, hc _ _ this.2.1, hc _ _ this.2.2⟩
    · have hk : k < p.m := hk
      exact h.o (p.m - 1 - k) (by omega)
end
theorem lit_row {W : World} {B0 : Nat} {v0 v1 v2 : Value} (hb : B0 ≤ W.heap.size) : (W.alloc (Obj.cells #[v0, v1, v2] 50)).ownsRow B0 50 3 (.slice (some ⟨W.heap.size, 0, none⟩) 1 1) 1 [v0, v1, v2] :=
  World.ownsRow_lit W #[v0, v1, v2] 1 hb (by unfold maxLen; omega) rfl
/-- The program with a row more. -/
def moQ (p : PgD) (ra : Option Addr) (rc : Nat) (q : RwD) : PgD := ⟨p.ca, p.n, p.cc, p.C, ra, p.m + 1, rc, fun i => if i < p.m then p.Ca i else q.ca, fun i => if i < p.m then p.Ln i else q.ln, fun i => if i < p.m then p.Kc i else q.kc, fun i => if i < p.m then p.Z i else q.z, fun i => if i < p.m then p.Kd i else q.kd, fun i => if i < p.m then p.Rt i else q.rt⟩
theorem moQ_is (p : PgD) (ra : Option Addr) (rc : Nat) (q : RwD) : MoP p (moQ p ra rc q) where
  n := rfl
  m := rfl
  c := fun _ _ => rfl
  k := fun i hi => if_pos hi
  r := fun i hi => if_pos hi
  l := fun i hi => if_pos hi
  z := fun i hi j _ => by show (if i < p.m then p.Z i else q.z) j = _; rw [if_pos hi]
theorem moQ_at {p : PgD} {q : RwD} {W : World} {B0 g cap : Nat} (hp : p.At W) (hq : IRow W q.ca q.ln q.z) (ho : W.ownsRow B0 50 3 (.slice (some ⟨g, 0, none⟩) (p.m + 1) cap) (p.m + 1) (pW p p.m ++ [.slice q.ca q.ln q.kc, .int .i64 q.kd, .int .i64 q.rt])) : (moQ p (some ⟨g, 0, none⟩) cap q).At W where
  cost := hp.cost
  rows := fun _ => ⟨g, 0, rfl, (ho.lt g rfl).2, fun i hi => by
    have hi : i < p.m + 1 := hi
    rw [Nat.zero_add, ho.cellAt (i * 3) (by omega), ho.cellAt (i * 3 + 1) (by omega), ho.cellAt (i * 3 + 2) (by omega)]
    have hl := pW_len p p.m
    show _ = some (Value.slice (if i < p.m then p.Ca i else q.ca) (if i < p.m then p.Ln i else q.ln) (if i < p.m then p.Kc i else q.kc)) ∧ _ = some (Value.int .i64 (if i < p.m then p.Kd i else q.kd)) ∧ _ = some (Value.int .i64 (if i < p.m then p.Rt i else q.rt))
    by_cases e : i < p.m
    · rw [List.getElem?_append_left (by omega), List.getElem?_append_left (by omega), List.getElem?_append_left (by omega), if_pos e, if_pos e, if_pos e, if_pos e, if_pos e]
      exact pW_get p p.m i e
    · have e2 : i = p.m := by omega
      subst e2
      rw [List.getElem?_append_right (by omega), List.getElem?_append_right (by omega), List.getElem?_append_right (by omega), hl, show p.m * 3 - p.m * 3 = 0 by omega, show p.m * 3 + 1 - p.m * 3 = 1 by omega, show p.m * 3 + 2 - p.m * 3 = 2 by omega, if_neg e, if_neg e, if_neg e, if_neg e, if_neg e]
      exact ⟨rfl, rfl, rfl⟩⟩
  coef := fun i hi => by
    show IRow W (if i < p.m then p.Ca i else q.ca) (if i < p.m then p.Ln i else q.ln) (if i < p.m then p.Z i else q.z)
    by_cases e : i < p.m
    · rw [if_pos e, if_pos e, if_pos e]; exact hp.coef i e
    · rw [if_neg e, if_neg e, if_neg e]; exact hq
theorem moQ_sm {p : PgD} (ra : Option Addr) (rc : Nat) (q : RwD) (hs : p.Sm) (hm : p.m ≤ 8) (hl : q.ln ≤ 14) : (moQ p ra rc q).Sm :=
  ⟨hs.n, by show p.m + 1 ≤ _; omega, fun i hi => by
    show (if i < p.m then p.Ln i else q.ln) ≤ _
    by_cases e : i < p.m
    · rw [if_pos e]; exact hs.l i e
    · rw [if_neg e]; omega⟩

theorem frz_onl {S : Nat → Prop} {W W2 : World} {b : Nat} (h : Frz W b) (hl : b < W.heap.size) (ho : Only S W W2) (hn : ¬ S b) : Frz W2 b :=
  ⟨(ho.frozen (p := ⟨b, 0, none⟩) hl hn).trans h.1, (ho.frozen (p := ⟨b, 1, none⟩) hl hn).trans h.2⟩
/-- What stays through the law. -/
structure KX (p : PgD) (q : RwD) (W : World) (ab xb yb : Nat) (a d : Int) (x y : Value) : Prop where
  a : ABk W ab (.int .i64 a) (.int .i64 d) x y
  x : Blk W xb (.slice p.ca p.n p.cc) (.slice p.ra p.m p.rc)
  y : EBlk W yb (.slice q.ca q.ln q.kc) (.int .i64 q.kd) (.int .i64 q.rt)
theorem KX.lo {p : PgD} {q : RwD} {W W2 : World} {B ab xb yb : Nat} {a d : Int} {x y : Value} (h : KX p q W ab xb yb a d x y) (hb : Below B W W2) (hl : ab < B ∧ xb < B ∧ yb < B) : KX p q W2 ab xb yb a d x y :=
  ⟨h.a.lo hb hl.1, ⟨Nat.lt_of_lt_of_le h.x.1 hb.size, (hb.cell (p := ⟨xb, 0, none⟩) hl.2.1).trans h.x.2.1, (hb.cell (p := ⟨xb, 1, none⟩) hl.2.1).trans h.x.2.2⟩,
   ⟨Nat.lt_of_lt_of_le h.y.hb hb.size, (hb.cell (p := ⟨yb, 0, none⟩) hl.2.2).trans h.y.c0, (hb.cell (p := ⟨yb, 1, none⟩) hl.2.2).trans h.y.c1, (hb.cell (p := ⟨yb, 2, none⟩) hl.2.2).trans h.y.c2, (hb.frozen (p := ⟨yb, 0, none⟩) hl.2.2).trans h.y.f0, (hb.frozen (p := ⟨yb, 1, none⟩) hl.2.2).trans h.y.f1, (hb.frozen (p := ⟨yb, 2, none⟩) hl.2.2).trans h.y.f2⟩⟩
theorem KX.on {p : PgD} {q : RwD} {W W2 : World} {ab xb yb : Nat} {a d : Int} {x y : Value} (h : KX p q W ab xb yb a d x y) (hb : Below W.heap.size W W2) : KX p q W2 ab xb yb a d x y := h.lo hb ⟨h.a.hb, h.x.1, h.y.hb⟩
theorem solo_form {p : PgD} {B : Nat} {W : World} {vl : Value} {er : Int} (h : SolO p B W vl er) : ∃ a d xa xn xc ya yn yc, vl = .agg #[.int .i64 a, .int .i64 d, .slice xa xn xc, .slice ya yn yc] := by
  rcases h with ⟨_, _, rfl⟩ | ⟨_, _, _, rfl⟩ | ⟨_, _, _, _, rfl⟩ | ⟨_, _, _, _, _, rfl⟩ | ⟨_, _, _, b, xb, yb, _, rfl, _⟩
  · exact ⟨_, _, _, _, _, _, _, _, rfl⟩
  · exact ⟨_, _, _, _, _, _, _, _, rfl⟩
  · exact ⟨_, _, _, _, _, _, _, _, rfl⟩
  · exact ⟨_, _, _, _, _, _, _, _, rfl⟩
  · exact ⟨_, _, _, _, _, _, _, _, rfl⟩
theorem news_at {W : World} {g : Nat} {l : List Value} (h : ∀ j u, l[j]? = some u → W.cell? ⟨g, j, none⟩ = some u) : ∀ j u, l[j]? = some u → W.cell? ((⟨g, 0, none⟩ : Addr).add j) = some u := fun j u hu => by
  rw [show (⟨g, 0, none⟩ : Addr).add j = ⟨g, j, none⟩ by unfold Addr.add; split <;> simp_all]
  exact h j u hu

/-- The region that copies the rows and appends one. -/
structure MorR (xb qb m prc : Nat) (pra : Option Addr) (rows : List Value) (r0 r1 r2 : Value) (Wc : World) (L : Nat → Bool) (v : Nat → Value) (W : World) : Prop where
  st : L 7 = false → Below Wc.heap.size Wc W
  f0 : Had L 0 (v 77 = .pointer (some ⟨xb, 1, none⟩))
  f1 : Had L 1 (v 78 = .slice pra m prc)
  x2 : Had L 2 (L 5 = false → W.ownsRow Wc.heap.size 50 3 (v 79) m rows)
  f3 : Had L 3 (v 80 = .agg #[r0, r1, r2])
  x4 : Had L 4 (L 5 = false → ∃ B, v 81 = .slice (some ⟨B, 0, none⟩) 1 1 ∧ SlR W B [r0, r1, r2])
  x5 : Had L 5 (L 7 = false → ∃ g cap, v 82 = .slice (some ⟨g, 0, none⟩) (m + 1) cap ∧ W.ownsRow Wc.heap.size 50 3 (.slice (some ⟨g, 0, none⟩) (m + 1) cap) (m + 1) (rows ++ [r0, r1, r2]))
  f6 : Had L 6 (v 83 = .pointer (some ⟨qb, 1, none⟩))
  s7 : Had L 7 (∃ W2 g cap, Below Wc.heap.size Wc W2 ∧ W2.ownsRow Wc.heap.size 50 3 (.slice (some ⟨g, 0, none⟩) (m + 1) cap) (m + 1) (rows ++ [r0, r1, r2]) ∧ W = W2.setCell ⟨qb, 1, none⟩ (.slice (some ⟨g, 0, none⟩) (m + 1) cap))
  w1 : Had L 1 (∀ j ∈ [0], L j = true)
  w2 : Had L 2 (∀ j ∈ [1], L j = true)
  w4 : Had L 4 (∀ j ∈ [3], L j = true)
  w5 : Had L 5 (∀ j ∈ [2, 4], L j = true)
  w7 : Had L 7 (∀ j ∈ [0, 1, 2, 3, 4, 5, 6], L j = true)

set_option maxRecDepth 100000 in
set_option maxHeartbeats 64000000 in
theorem lawMore_any (p : PgD) (hs : p.Sm) (q : RwD) (w : World) (hp : p.At w) (hq : IRow w q.ca q.ln q.z) :
    Calls Try.prog 6 #[p.val, .agg #[.slice q.ca q.ln q.kc, .int .i64 q.kd, .int .i64 q.rt]] w fun e w' => e = .returned (.bool true) ∧ Below w.heap.size w w' := by
  unfold PgD.val
  obtain ⟨v, hv⟩ := bool_of (FewP p)
  have hb1 : Below w.heap.size w (w.alloc (Obj.cells #[Value.slice p.ca p.n p.cc, .slice p.ra p.m p.rc] 25)) := (Below.refl _ _).alloc (Nat.le_refl _) _
  obtain ⟨w1, hw1⟩ : ∃ W, W = w.alloc (Obj.cells #[Value.slice p.ca p.n p.cc, .slice p.ra p.m p.rc] 25) := ⟨_, rfl⟩
  obtain ⟨xb, hxb⟩ : ∃ x, x = w.heap.size := ⟨_, rfl⟩
  have hB : Blk w1 xb (.slice p.ca p.n p.cc) (.slice p.ra p.m p.rc) := by rw [hw1, hxb]; exact Blk.new _ _ _ _
  rw [← hw1] at hb1
  have hb2 : Below w1.heap.size w1 (w1.alloc (Obj.cells #[Value.slice q.ca q.ln q.kc, .int .i64 q.kd, .int .i64 q.rt] 50)) := (Below.refl _ _).alloc (Nat.le_refl _) _
  obtain ⟨w2, hw2⟩ : ∃ W, W = w1.alloc (Obj.cells #[Value.slice q.ca q.ln q.kc, .int .i64 q.kd, .int .i64 q.rt] 50) := ⟨_, rfl⟩
  obtain ⟨yb, hyb⟩ : ∃ x, x = xb + 1 := ⟨_, rfl⟩
  have hyw : yb = w1.heap.size := by rw [hyb, hw1, hxb]; simp
  have hY : EBlk w2 yb (.slice q.ca q.ln q.kc) (.int .i64 q.kd) (.int .i64 q.rt) := by
    rw [hw2, hyw]
    exact ⟨by simp, by simp [go_sem], by simp [go_sem], by simp [go_sem], by simp [go_sem], by simp [go_sem], by simp [go_sem]⟩
  rw [← hw2] at hb2
  have CA := Lib.hid (pawake_any w2)
  have CW := fun W (h : Below w.heap.size w W) => Lib.hid (few_any p v hv W (hp.on h))
  have HCW := Lib.hid CW
  have CS := fun W (h : Below w.heap.size w W) => Lib.hid (Solve_any p hs W (hp.on h))
  have HCS := Lib.hid CS
  have HCZ := Lib.hid (fun (W : World) => Lib.hid (empty_zero W))
  have HP := Lib.hid hp
  have HS := Lib.hid hs
  have HQI := Lib.hid hq
  have HV := Lib.hid hv
  have HB := Lib.hid (below_on hb1 hb2)
  have HXB := Lib.hid (And.intro (hB.on hb2) hY)
  clear hb1 hb2 hB hY hv hp hs hq CW CS
  unfold PgD.val at HCW HCS
  go_enter Try.func6, Try.ntmps6
  go_upto_region 1 with fail
  rw [← hxb, ← hw1, ← hyb, ← hw2]
  clear hxb hw1 hyb hyw hw2
  go_wp2_with fail
  (with_reducible refine ((CA.out).mono ?_))
  rintro e w3 ⟨rfl, hb2⟩
  have HXB := Lib.hid (And.intro (HXB.out.1.on hb2) (HXB.out.2.on hb2))
  have HB := Lib.hid (below_on HB.out hb2)
  clear hb2
  clear CA
  have q0 := HXB.out.1.2.1
  have q1 := HXB.out.1.2.2
  cases v
  · go_wp2_with fail
    (with_reducible refine (((HCW.out _ HB.out).out).mono ?_))
    rintro e w4 ⟨rfl, hb2⟩
    go_wp2_with fail
    go_ret
    exact ⟨rfl, below_on HB.out hb2⟩
  have hfew : FewP p := HV.out.1 rfl
  obtain ⟨hn14, hm8, hl14⟩ := hfew
  have HL14 := Lib.hid hl14
  go_wp2_with fail
  (with_reducible refine (((HCW.out _ HB.out).out).mono ?_))
  rintro e w4 ⟨rfl, hb2⟩
  have HXB := Lib.hid (And.intro (HXB.out.1.on hb2) (HXB.out.2.on hb2))
  have HB := Lib.hid (below_on HB.out hb2)
  clear hb2
  clear HCW q0 q1 hl14 HV
  have k0 := HXB.out.2.c0
  by_cases hql : q.ln ≤ 14
  case neg =>
    have t1 : (14 : Int) < (q.ln : Int) := by omega
    have t2 : decide ((14 : Int) < (q.ln : Int)) = true := decide_eq_true t1
    clear hql
    go_wp2_with fail
    go_ret
    exact ⟨rfl, HB.out⟩
  have t1 : ¬ (14 : Int) < (q.ln : Int) := by omega
  have t2 : decide ((14 : Int) < (q.ln : Int)) = false := decide_eq_false t1
  have q0 := HXB.out.1.2.1
  have q1 := HXB.out.1.2.2
  go_wp2_with fail
  (with_reducible refine (((HCS.out _ HB.out).out).mono ?_))
  rintro e w5 ⟨hb2, vl, er, rfl, hso⟩
  have HXB := Lib.hid (And.intro (HXB.out.1.on hb2) (HXB.out.2.on hb2))
  have HB := Lib.hid (below_on HB.out hb2)
  clear hb2
  obtain ⟨a, d, xa, xn, xc, ya, yn, yc, hvl⟩ := solo_form hso
  have HSO := Lib.hid hso
  have HVL := Lib.hid hvl
  clear hso q0 q1 HCS k0 t1 t2
  rw [hvl]
  clear hvl
  go_upto_region 6 with fail
  have hb2 : Below w5.heap.size w5 (w5.alloc (Obj.cells #[.int .i64 a, .int .i64 d, .slice xa xn xc, .slice ya yn yc] 38)) := (Below.refl _ _).alloc (Nat.le_refl _) _
  obtain ⟨w6, hw6⟩ : ∃ W, W = w5.alloc (Obj.cells #[.int .i64 a, .int .i64 d, .slice xa xn xc, .slice ya yn yc] 38) := ⟨_, rfl⟩
  obtain ⟨ab, hab⟩ : ∃ x, x = w5.heap.size := ⟨_, rfl⟩
  rw [← hab, ← hw6]
  rw [← hw6] at hb2
  have HK : Hid (KX p q w6 ab xb yb a d (.slice xa xn xc) (.slice ya yn yc)) := by
    refine ⟨?_, HXB.out.1.on hb2, HXB.out.2.on hb2⟩
    rw [hw6, hab]
    exact ⟨by simp, by simp [go_sem], by simp [go_sem], by simp [go_sem], by simp [go_sem], fun o => by simp [go_sem]⟩
  have HB := Lib.hid (below_on HB.out hb2)
  clear hw6 hab hb2 HXB
  have HCC := Lib.hid (clone_ints p.ca p.n p.cc p.C w6 (HP.out.on HB.out).cost (by omega))
  have q0 := HK.out.x.2.1
  go_wp2_with fail
  (with_reducible refine ((HCC.out).mono ?_))
  rintro e w7 ⟨hb2, ca, cc, rfl, hown⟩
  have HL6 : Hid (ab < w6.heap.size ∧ xb < w6.heap.size ∧ yb < w6.heap.size) := ⟨HK.out.a.hb, HK.out.x.1, HK.out.y.hb⟩
  have HWL : Hid (w.heap.size ≤ w6.heap.size) := HB.out.size
  have HK := Lib.hid (HK.out.on hb2)
  have HB := Lib.hid (below_on HB.out hb2)
  have HL7 : Hid (w6.heap.size ≤ w7.heap.size) := hb2.size
  have HOW := Lib.hid hown
  clear HCC q0 hown hb2
  go_upto_region 7 with fail
  have hb2 : Below w7.heap.size w7 (w7.alloc (Obj.cells #[Value.slice ca p.n cc, .slice none 0 0] 25)) := (Below.refl _ _).alloc (Nat.le_refl _) _
  obtain ⟨w8, hw8⟩ : ∃ W, W = w7.alloc (Obj.cells #[Value.slice ca p.n cc, .slice none 0 0] 25) := ⟨_, rfl⟩
  obtain ⟨tb, htb⟩ : ∃ x, x = w7.heap.size := ⟨_, rfl⟩
  rw [← htb, ← hw8]
  rw [← hw8] at hb2
  have HTB : Hid (Blk w8 tb (.slice ca p.n cc) (.slice none 0 0) ∧ Frz w8 tb) := by rw [hw8, htb]; exact ⟨Blk.new _ _ _ _, Frz.new _ _ _ _⟩
  have HLT : Hid ((w.heap.size ≤ tb ∧ ab < tb ∧ xb < tb ∧ yb < tb) ∧ ∀ g, (Value.slice ca p.n cc).ownBlock = some g → w6.heap.size ≤ g ∧ g < tb) := by
    have h6 := HL6.out
    have h7 := HL7.out
    have h8 := HB.out.size
    exact ⟨⟨by omega, by omega, by omega, by omega⟩, fun g hg => by rw [htb]; exact HOW.out.lt g hg⟩
  have HOW := Lib.hid (own_only HOW.out (Only.of_below (S := fun _ => False) hb2) (fun _ _ q => q))
  have HK := Lib.hid (HK.out.on hb2)
  have HB := Lib.hid (below_on HB.out hb2)
  have HL8 : Hid (w6.heap.size ≤ w8.heap.size) := Nat.le_trans HL7.out hb2.size
  clear hw8 htb hb2 HL7
  have HCR := Lib.hid (rev_ints w6.heap.size p.n ca cc p.C w8 HOW.out (by omega))
  have q0 := HTB.out.1.2.1
  go_wp2_with fail
  (with_reducible refine ((HCR.out).mono ?_))
  rintro e w9 ⟨rfl, hon, hir⟩
  have S0 : Hid (MrI p w.heap.size w9 tb 0 ca cc (.slice none 0 0) (fun _ => none) (fun _ => 0) ∧ Below w.heap.size w w9 ∧ KX p q w9 ab xb yb a d (.slice xa xn xc) (.slice ya yn yc)) := by
    have hnt : ¬ (Value.slice ca p.n cc).ownBlock = some tb := fun e => by have := (HLT.out.2 tb e).2; omega
    have hB6 : Below w6.heap.size w8 w9 := hon.below HL8.out (fun c hc => (HLT.out.2 c hc).1)
    exact ⟨⟨HTB.out.1.only hon hnt, frz_onl HTB.out.2 HTB.out.1.1 hon hnt, HLT.out.1.1, hir, fun g o e => by have := (HLT.out.2 g (by rw [e]; rfl)).2; omega, fun _ => rfl, fun h => by omega, fun l hl => by omega, fun l hl => by omega⟩,
      HB.out.trans (hB6.mono HWL.out), HK.out.lo hB6 HL6.out⟩
  clear hon hir HCR q0 HOW HTB HB HK HL6 HL8 HWL
  obtain ⟨i2, hi0, hz0, hz1, hz2⟩ := info_parts (show (Try.prog.info? 50).map (fun i => (i.zero, i.size, i.bytes)) = some (some (Value.agg #[.slice none 0 0, .int .i64 0, .int .i64 0]), 3, 40) by kernel_rfl)
  have HI2 := Lib.hid (And.intro hi0 (And.intro hz0 (And.intro hz1 hz2)))
  clear hi0 hz0 hz1 hz2
  have q1 := S0.out.2.2.x.2.2
  go_wp2_with fail
  clear q1
  go_loopg [43] p.m (fun g s43 wx => ∃ i : Nat, s43 = .int .i64 i ∧ g = p.m - i ∧ i ≤ p.m ∧ ∃ rv GA KA, Hid (MrI p w.heap.size wx tb i ca cc rv GA KA ∧ Below w.heap.size w wx ∧ KX p q wx ab xb yb a d (.slice xa xn xc) (.slice ya yn yc)))
  case atStart => exact ⟨0, rfl, rfl, Nat.zero_le _, _, _, _, S0⟩
  case round =>
    clear S0
    obtain ⟨i, rfl, rfl, hi, rv, GA, KA, S⟩ := hrel
    rename World => Wm
    by_cases hlt : i < p.m
    · have wk : IntKind.i64.wrap ((i : Int) + 1) = ((i + 1 : Nat) : Int) := by rw [IntWalk.i64_in _ (by omega)]; omega
      have hat := HP.out.on S.out.2.1
      obtain ⟨gr, gro, er, hgr, hrow⟩ := hat.rows (by omega)
      have p1 := (hrow i hlt).1
      have p2 := (hrow i hlt).2.1
      have p3 := (hrow i hlt).2.2
      have hl14 := HL14.out i hlt
      have HCO := Lib.hid (hat.coef i hlt)
      obtain ⟨kd, hkd⟩ : ∃ x, p.Kd i = x := ⟨_, rfl⟩
      obtain ⟨rt, hrt⟩ : ∃ x, p.Rt i = x := ⟨_, rfl⟩
      obtain ⟨ln, hln⟩ : ∃ x, p.Ln i = x := ⟨_, rfl⟩
      rw [hln] at p1 hl14 HCO
      rw [hkd] at p2
      rw [hrt] at p3
      have HI := Lib.hid (And.intro hkd (And.intro hrt hln))
      have HER := Lib.hid er
      rw [er]
      clear hrow hat hkd hrt hln er hgr
      go_upto_region 11 with fail
      rw [← HER.out]
      clear HER
      obtain ⟨rb, hrb⟩ : ∃ x, x = Wm.heap.size := ⟨_, rfl⟩
      obtain ⟨wa, hwa⟩ : ∃ V, V = Wm.alloc (Obj.cells #[Value.slice (p.Ca i) ln (p.Kc i), Value.int IntKind.i64 kd, Value.int IntKind.i64 rt] 50) := ⟨_, rfl⟩
      rw [← hrb, ← hwa]
      have hb2 : Below Wm.heap.size Wm wa := by rw [hwa]; exact (Below.refl _ _).alloc (Nat.le_refl _) _
      have HE : Hid (EBlk wa rb (.slice (p.Ca i) ln (p.Kc i)) (.int .i64 kd) (.int .i64 rt)) := by
        rw [hwa, hrb]
        exact ⟨by simp, by simp [go_sem], by simp [go_sem], by simp [go_sem], by simp [go_sem], by simp [go_sem], by simp [go_sem]⟩
      have HRB : Hid (Wm.heap.size ≤ rb) := by show _ ≤ _; omega
      have HBM := Lib.hid hb2
      have HC1 := Lib.hid (clone_ints (p.Ca i) ln (p.Kc i) (p.Z i) wa (HCO.out.on hb2) (by omega))
      clear hb2 hwa hrb p1 p2 p3 HCO
      have k0 := HE.out.c0
      go_wp2_with fail
      (with_reducible refine ((HC1.out).mono ?_))
      rintro e wb ⟨hb2, pa, pc, rfl, hown⟩
      have HRA : Hid (rb < wa.heap.size ∧ Wm.heap.size ≤ wa.heap.size) := ⟨HE.out.hb, HBM.out.size⟩
      have HE := Lib.hid (HE.out.on hb2)
      have HBM := Lib.hid (below_on HBM.out hb2)
      have HOW := Lib.hid hown
      clear hb2 hown HC1 k0
      have k0 := HE.out.c0
      have k1 := HE.out.f0
      go_upto_region 12 with fail
      obtain ⟨wc, hwc⟩ : ∃ V, V = wb.setCell ⟨rb, 0, none⟩ (.slice pa ln pc) := ⟨_, rfl⟩
      rw [← hwc]
      have HE : Hid (EBlk wc rb (.slice pa ln pc) (.int .i64 kd) (.int .i64 rt)) := by rw [hwc]; exact HE.out.set0 _
      have HBM : Hid (Below Wm.heap.size Wm wc) := by rw [hwc]; exact HBM.out.setCell (p := ⟨rb, 0, none⟩) HRB.out _
      have HOW : Hid (wc.ownsRow wa.heap.size 3 1 (.slice pa ln pc) ln ((List.range ln).map fun l => Value.int .i64 (p.Z i l))) := by
        rw [hwc]
        exact own_only HOW.out (only_set wb ⟨rb, 0, none⟩ _) (fun q hq e => by
          have := (HOW.out.lt q hq).1
          have e3 : q = rb := e
          have := HRA.out.1
          omega)
      clear hwc k0 k1
      have HR1 := Lib.hid (rev_ints wa.heap.size ln pa pc (p.Z i) wc HOW.out (by omega))
      have k0 := HE.out.c0
      go_wp2_with fail
      (with_reducible refine ((HR1.out).mono ?_))
      rintro e wd ⟨rfl, hon, hir⟩
      have HBL : Hid (∀ g, (Value.slice pa ln pc).ownBlock = some g → wa.heap.size ≤ g) := fun g hg => (HOW.out.lt g hg).1
      have HPB : Hid (∀ g o, pa = some ⟨g, o, none⟩ → g < wd.heap.size) := fun g o e => Nat.lt_of_lt_of_le (HOW.out.lt g (by rw [e]; rfl)).2 hon.size
      have HE := Lib.hid (HE.out.only hon (fun e => by have := HBL.out rb e; have := HRA.out.1; omega))
      have HBM := Lib.hid (HBM.out.trans (hon.below HBM.out.size (fun c hc => by have := HBL.out c hc; have := HRA.out.2; omega)))
      have HIR := Lib.hid hir
      clear hon hir HR1 k0 HOW
      have k0 := HE.out.c0
      have k1 := HE.out.c1
      have k2 := HE.out.c2
      have S2 := Lib.hid (S.out.1.go HBM.out)
      have B2 := Lib.hid (below_on S.out.2.1 HBM.out)
      have K2 := Lib.hid (S.out.2.2.on HBM.out)
      have HPN : Hid (∀ g o, pa = some ⟨g, o, none⟩ → g ≠ tb) := fun g o e => by
        have h1 := HBL.out g (by rw [e]; rfl)
        have h2 := HRA.out.2
        have h3 := S.out.1.d.1
        omega
      have HPB : Hid (∀ g o, pa = some ⟨g, o, none⟩ → g < wd.heap.size) := HPB.out
      clear S HBM HBL HE HRA HRB
      have B1 : Hid (Below wd.heap.size wd (wd.alloc (Obj.cells #[.slice pa ln pc, .int .i64 kd, .int .i64 rt] 50))) := (Below.refl _ _).alloc (Nat.le_refl _) _
      have LIT : Hid ((wd.alloc (Obj.cells #[.slice pa ln pc, .int .i64 kd, .int .i64 rt] 50)).ownsRow w.heap.size 50 3 (.slice (some ⟨wd.heap.size, 0, none⟩) 1 1) 1 [.slice pa ln pc, .int .i64 kd, .int .i64 rt]) := lit_row B2.out.size
      have S3 := Lib.hid (S2.out.go B1.out)
      have B3 := Lib.hid (below_on B2.out B1.out)
      have K3 := Lib.hid (K2.out.on B1.out)
      have HIR := Lib.hid (HIR.out.on B1.out)
      have HDS : Hid (tb < wd.heap.size) := S2.out.d.1
      have k3 := S2.out.d.2.2
      have kk1 := S3.out.d.2.2
      have kk2 := S3.out.dz.2
      by_cases hi0 : i = 0
      · have hrv := S2.out.e hi0
        subst hrv
        go_upto_region 14 with (at_builtin; refine wpList_append_own_none rfl _ _ 23 rfl w.heap.size 50 i2 3 Try.underlying23 HI2.out.1 _ _ _ rfl LIT.out rfl ?_)
        have hcells : ∀ j u, ([Value.slice pa ln pc, .int .i64 kd, .int .i64 rt])[j]? = some u → (wd.alloc (Obj.cells #[.slice pa ln pc, .int .i64 kd, .int .i64 rt] 50)).cell? ⟨wd.heap.size, j, none⟩ = some u := fun j u hu => by
          simp [go_sem]
          exact hu
        have T : Hid (MrI p w.heap.size ((wd.alloc (Obj.cells #[.slice pa ln pc, .int .i64 kd, .int .i64 rt] 50)).setCell ⟨tb, 1, none⟩ (.slice (some ⟨wd.heap.size, 0, none⟩) (i + 1) 1)) tb (i + 1) ca cc (.slice (some ⟨wd.heap.size, 0, none⟩) (i + 1) 1) (updG GA i pa) (updG KA i pc) ∧ Below w.heap.size w ((wd.alloc (Obj.cells #[.slice pa ln pc, .int .i64 kd, .int .i64 rt] 50)).setCell ⟨tb, 1, none⟩ (.slice (some ⟨wd.heap.size, 0, none⟩) (i + 1) 1)) ∧ KX p q ((wd.alloc (Obj.cells #[.slice pa ln pc, .int .i64 kd, .int .i64 rt] 50)).setCell ⟨tb, 1, none⟩ (.slice (some ⟨wd.heap.size, 0, none⟩) (i + 1) 1)) ab xb yb a d (.slice xa xn xc) (.slice ya yn yc)) := by
          refine ⟨S3.out.push (by rw [HI.out.2.2]; exact HIR.out) HPN.out (by simp) (by have := HDS.out; omega) ?_, B3.out.setCell (p := ⟨tb, 1, none⟩) HLT.out.1.1 _, K3.out.lo (B := tb) ((Below.refl tb _).setCell (p := ⟨tb, 1, none⟩) (Nat.le_refl tb) _) HLT.out.1.2⟩
          rw [HI.out.1, HI.out.2.1, HI.out.2.2, hi0]
          show ∀ j u, ([Value.slice pa ln pc, .int .i64 kd, .int .i64 rt] ++ [])[j]? = some u → _
          rw [List.append_nil]
          exact hcells
        rw [hi0] at T
        clear S2 B2 K2 B1 LIT S3 B3 K3 HIR HDS HPN k0 k1 k2 k3 kk1 kk2 hcells HI
        subst hi0
        go_wp2_with fail
        go_roundg (p.m - (0 + 1))
        case measure => omega
        case rel => exact ⟨0 + 1, rfl, rfl, by omega, _, _, _, T⟩
      · obtain ⟨g0, cap0, hrv, hg0, hgn0, hcl⟩ := S2.out.r (by omega)
        subst hrv
        have NW : Hid (∀ j u, (mW p GA KA i)[j]? = some u → (wd.alloc (Obj.cells #[.slice pa ln pc, .int .i64 kd, .int .i64 rt] 50)).cell? ((⟨g0, 0, none⟩ : Addr).add j) = some u) := news_at fun j u hu => (B1.out.cell (p := ⟨g0, j, none⟩) hg0).trans (hcl j u hu)
        have LN : Hid (¬ (Value.slice (some ⟨wd.heap.size, 0, none⟩) 1 1).ownBlock = some tb) := fun e => by
          have e4 : wd.heap.size = tb := by injection e
          have := HDS.out
          omega
        clear hg0 hgn0 hcl
        go_upto_region 14 with (at_builtin; refine wpList_append_lies _ rfl _ _ 23 rfl w.heap.size 50 i2 (.agg #[.slice none 0 0, .int .i64 0, .int .i64 0]) 3 40 Try.underlying23 HI2.out.1 HI2.out.2.1 HI2.out.2.2.1 HI2.out.2.2.2 rfl (by decide) _ _ _ rfl LIT.out ⟨g0, 0, none⟩ i cap0 (mW p GA KA i) rfl (mW_len p GA KA i) NW.out (mW_one p GA KA i) (by omega) (by unfold maxLen; omega) (by omega) B3.out.size _ rfl ?_; intro gq cap W5 hown hgrow hat hqlt; have ek1 := ((grown_only (Below.refl _ _) hgrow).cell (p := ⟨tb, 1, none⟩) S3.out.d.1 LN.out).trans S3.out.d.2.2; have ek2 := ((grown_only (Below.refl _ _) hgrow).frozen (p := ⟨tb, 1, none⟩) S3.out.d.1 LN.out).trans S3.out.dz.2)
        have hA := grown_only (Below.refl _ _) hgrow
        have hwl : wd.heap.size ≤ (wd.alloc (Obj.cells #[.slice pa ln pc, .int .i64 kd, .int .i64 rt] 50)).heap.size := B1.out.size
        have hBd : Below wd.heap.size (wd.alloc (Obj.cells #[.slice pa ln pc, .int .i64 kd, .int .i64 rt] 50)) W5 := hA.below hwl (fun c hc => by
          have hc : some wd.heap.size = some c := hc
          injection hc with e4
          omega)
        have hBe : Below wd.heap.size wd W5 := B1.out.trans hBd
        have hgt : gq ≠ tb := by
          have := HDS.out
          rcases hat with h | h
          · have e4 : wd.heap.size = gq := by injection h
            omega
          · omega
        rw [Nat.add_comm 1 i] at hown
        rw [Nat.add_comm 1 i]
        have T : Hid (MrI p w.heap.size (W5.setCell ⟨tb, 1, none⟩ (.slice (some ⟨gq, 0, none⟩) (i + 1) cap)) tb (i + 1) ca cc (.slice (some ⟨gq, 0, none⟩) (i + 1) cap) (updG GA i pa) (updG KA i pc) ∧ Below w.heap.size w (W5.setCell ⟨tb, 1, none⟩ (.slice (some ⟨gq, 0, none⟩) (i + 1) cap)) ∧ KX p q (W5.setCell ⟨tb, 1, none⟩ (.slice (some ⟨gq, 0, none⟩) (i + 1) cap)) ab xb yb a d (.slice xa xn xc) (.slice ya yn yc)) := by
          have hpi := (irow_only2 HIR.out hA (fun g o e e2 => by
            have e2 : some wd.heap.size = some g := e2
            have e4 : wd.heap.size = g := by injection e2
            exact absurd e4 (Nat.ne_of_gt (HPB.out g o e))))
          refine ⟨(S2.out.go hBe).push (by rw [HI.out.2.2]; exact hpi) HPN.out hqlt hgt ?_, (below_on B2.out hBe).setCell (p := ⟨tb, 1, none⟩) HLT.out.1.1 _, (K2.out.on hBe).lo (B := tb) ((Below.refl tb _).setCell (p := ⟨tb, 1, none⟩) (Nat.le_refl tb) _) HLT.out.1.2⟩
          rw [HI.out.1, HI.out.2.1, HI.out.2.2]
          intro j u hu
          have hj : j < (i + 1) * 3 := by
            rcases Nat.lt_or_ge j ((i + 1) * 3) with h | h
            · exact h
            · rw [List.getElem?_eq_none (by rw [List.length_append, mW_len]; simp; omega)] at hu; cases hu
          rw [hown.cellAt j (by omega)]
          exact hu
        clear hown hgrow hat hqlt kk1 kk2 ek1 ek2 hA hwl hBd hBe hgt S2 B2 K2 B1 LIT S3 B3 K3 HIR HDS HPN k0 k1 k2 k3 NW LN HI HPB
        go_wp2_with fail
        go_roundg (p.m - (i + 1))
        case measure => omega
        case rel => exact ⟨i + 1, rfl, rfl, by omega, _, _, _, T⟩
    · have e : i = p.m := by omega
      subst e
      obtain ⟨t, htv, hta, hrv, hts⟩ := S.out.1.fin HS.out
      have HB := Lib.hid S.out.2.1
      have HK := Lib.hid S.out.2.2
      have CT := Lib.hid (Solve_any t hts Wm hta)
      rw [htv] at CT
      have k0 := S.out.1.d.2.1
      have k1 := S.out.1.d.2.2
      have HRV := Lib.hid hrv
      clear S hta htv hts hrv hlt hi
      go_wp2_with fail
      (with_reducible refine ((CT.out).mono ?_))
      rintro e x1 ⟨hb2, vl2, er2, rfl, hso2⟩
      have HK := Lib.hid (HK.out.on hb2)
      have HB := Lib.hid (below_on HB.out hb2)
      obtain ⟨a2, d2, xa2, xn2, xc2, ya2, yn2, yc2, hvl2⟩ := solo_form hso2
      have hrs := rv_sol HRV.out HSO.out hso2
      have hee := hrs.1
      have hvv := hrs.2 a d a2 d2 ⟨_, _, HVL.out⟩ ⟨_, _, hvl2⟩
      obtain ⟨rfl, rfl⟩ := hvv
      subst hee
      rw [hvl2]
      clear hso2 hvl2 hrs CT HRV k0 k1 hb2
      go_upto_region 16 with fail
      have hb2 : Below x1.heap.size x1 (x1.alloc (Obj.cells #[.int .i64 a, .int .i64 d, .slice xa2 xn2 xc2, .slice ya2 yn2 yc2] 38)) := (Below.refl _ _).alloc (Nat.le_refl _) _
      obtain ⟨x2, hx2⟩ : ∃ W, W = x1.alloc (Obj.cells #[.int .i64 a, .int .i64 d, .slice xa2 xn2 xc2, .slice ya2 yn2 yc2] 38) := ⟨_, rfl⟩
      obtain ⟨bb, hbb⟩ : ∃ x, x = x1.heap.size := ⟨_, rfl⟩
      rw [← hbb, ← hx2]
      rw [← hx2] at hb2
      have k2 : x2.cell? ⟨bb, 0, none⟩ = some (.int .i64 a) := by rw [hx2, hbb]; simp [go_sem]
      have k3 : x2.cell? ⟨bb, 1, none⟩ = some (.int .i64 d) := by rw [hx2, hbb]; simp [go_sem]
      have HK := Lib.hid (HK.out.on hb2)
      have HB := Lib.hid (below_on HB.out hb2)
      clear hx2 hbb hb2
      have k0 := HK.out.a.c0
      have k1 := HK.out.a.c1
      have q0 := HK.out.x.2.1
      have q1 := HK.out.x.2.2
      go_upto_region 19 with fail
      clear k0 k1 k2 k3 q0 q1
      have hb2 : Below x2.heap.size x2 (x2.alloc (Obj.cells #[Value.slice p.ca p.n p.cc, .slice p.ra p.m p.rc] 25)) := (Below.refl _ _).alloc (Nat.le_refl _) _
      obtain ⟨x3, hx3⟩ : ∃ W, W = x2.alloc (Obj.cells #[Value.slice p.ca p.n p.cc, .slice p.ra p.m p.rc] 25) := ⟨_, rfl⟩
      obtain ⟨qb, hqb⟩ : ∃ x, x = x2.heap.size := ⟨_, rfl⟩
      rw [← hqb, ← hx3]
      rw [← hx3] at hb2
      have HQB : Hid (Blk x3 qb (.slice p.ca p.n p.cc) (.slice p.ra p.m p.rc) ∧ Frz x3 qb) := by rw [hx3, hqb]; exact ⟨Blk.new _ _ _ _, Frz.new _ _ _ _⟩
      have HQL : Hid ((ab < qb ∧ xb < qb ∧ yb < qb) ∧ w.heap.size ≤ qb) := by rw [hqb]; exact ⟨⟨HK.out.a.hb, HK.out.x.1, HK.out.y.hb⟩, HB.out.size⟩
      have HK := Lib.hid (HK.out.on hb2)
      have HB := Lib.hid (below_on HB.out hb2)
      clear hx3 hqb hb2
      have CP := fun W (h : Below x3.heap.size x3 W) => Lib.hid (clone_prog p W ((HP.out.on HB.out).on h) (by omega))
      have LX : Hid (x3.cell? ⟨xb, 1, none⟩ = some (.slice p.ra p.m p.rc) ∧ xb < x3.heap.size) := ⟨HK.out.x.2.2, HK.out.x.1⟩
      have LY0 : Hid (x3.cell? ⟨yb, 0, none⟩ = some (.slice q.ca q.ln q.kc) ∧ yb < x3.heap.size) := ⟨HK.out.y.c0, HK.out.y.hb⟩
      have LY1 : Hid (x3.cell? ⟨yb, 1, none⟩ = some (.int .i64 q.kd) ∧ yb < x3.heap.size) := ⟨HK.out.y.c1, HK.out.y.hb⟩
      have LY2 : Hid (x3.cell? ⟨yb, 2, none⟩ = some (.int .i64 q.rt) ∧ yb < x3.heap.size) := ⟨HK.out.y.c2, HK.out.y.hb⟩
      have LQ : Hid (x3.cell? ⟨qb, 1, none⟩ = some (.slice p.ra p.m p.rc) ∧ x3.frozen? ⟨qb, 1, none⟩ = false ∧ qb < x3.heap.size) := ⟨HQB.out.1.2.2, HQB.out.2.2, HQB.out.1.1⟩
      have LQ0 : Hid (x3.cell? ⟨qb, 0, none⟩ = some (.slice p.ca p.n p.cc)) := HQB.out.1.2.1
      clear HQB
      refine wp_region_each (fun L A W => ∃ (v : Nat → Value), A = ⟨#[_, _, _, _, _, _, _, _, _, _, _, _, _, _, _, _, _, _, _, _, _, _, _, _, _, _, _, _, _, _, _, _, _, _, _, _, _, _, _, _, _, _, _, _, _, _, _, _, _, _, _, _, _, _, _, _, _, _, _, _, _, _, _, _, _, _, _, _, _, _, _, _, _, _, _, _, _, v 77, v 78, v 79, v 80, v 81, v 82, v 83, _, _, _, _, _, _, _, _, _, _, _, _, _, _, _, _, _, _, _, _, _, _, _, _, _, _, _, _, _, _, _, _, _, _, _, _, _, _, _, _, _, _, _, _, _, _, _, _, _, _], []⟩ ∧ MorR xb qb p.m p.rc p.ra (pW p p.m) (.slice q.ca q.ln q.kc) (.int .i64 q.kd) (.int .i64 q.rt) x3 L v W) (by kernel_rfl) (by kernel_rfl) ⟨fun jz => if jz = 77 then undef else if jz = 78 then undef else if jz = 79 then undef else if jz = 80 then undef else if jz = 81 then undef else if jz = 82 then undef else if jz = 83 then undef else undef, rfl, ⟨(fun _ => Below.drew (Below.refl _ _)), Had.none, Had.none, Had.none, Had.none, Had.none, Had.none, Had.none, Had.none, Had.none, Had.none, Had.none, Had.none, Had.none⟩⟩ (rs := [0, 1, 2, 3, 4, 5, 6, 7]) (by kernel_rfl) ?_ ?_
      · refine EachOf.cons [] rfl (by kernel_rfl) ?_ ?_
        · rintro L A W ⟨v, rfl, hR⟩ hi hw K hK
          go_simp
          refine hK.out _ _ ?_
          exact ⟨(fun jz => if jz = 77 then .pointer (some ⟨xb, 1, none⟩) else v jz), rfl, ⟨(fun h => hR.st (upd_false h)), (fun _ => rfl), hR.f1.k rfl, hR.x2.keepM rfl (fun h hx => h (upd_false hx)), hR.f3.k rfl, hR.x4.keepM rfl (fun h hx => h (upd_false hx)), hR.x5.keepM rfl (fun h hx => h (upd_false hx)), hR.f6.k rfl, hR.s7.k rfl, hR.w1.o rfl, hR.w2.o rfl, hR.w4.o rfl, hR.w5.o rfl, hR.w7.o rfl⟩⟩
        refine EachOf.cons [0] rfl (by kernel_rfl) ?_ ?_
        · rintro L A W ⟨v, rfl, hR⟩ hi hw K hK
          have e0 := hR.f0 (hw 0 (by simp))
          simp only [e0]
          clear e0
          have hk : L 7 = false := hR.w7.not hi rfl
          have q0 := ((hR.st hk).cell (p := ⟨xb, 1, none⟩) LX.out.2).trans LX.out.1
          go_simp
          refine hK.out _ _ ?_
          exact ⟨(fun jz => if jz = 77 then .pointer (some ⟨xb, 1, none⟩) else if jz = 78 then .slice p.ra p.m p.rc else v jz), rfl, ⟨(fun h => hR.st (upd_false h)), (fun _ => rfl), (fun _ => rfl), hR.x2.keepM rfl (fun h hx => h (upd_false hx)), hR.f3.k rfl, hR.x4.keepM rfl (fun h hx => h (upd_false hx)), hR.x5.keepM rfl (fun h hx => h (upd_false hx)), hR.f6.k rfl, hR.s7.k rfl, (fun _ j hj => upd_on (hw j hj)), hR.w2.o rfl, hR.w4.o rfl, hR.w5.o rfl, hR.w7.o rfl⟩⟩
        refine EachOf.cons [1] rfl (by kernel_rfl) ?_ ?_
        · rintro L A W ⟨v, rfl, hR⟩ hi hw K hK
          have e1 := hR.f1 (hw 1 (by simp))
          simp only [e1]
          clear e1
          have hk : L 7 = false := hR.w7.not hi rfl
          have hk5 : L 5 = false := hR.w5.not hi rfl
          go_simp
          go_at_call 21
          (with_reducible refine ((CP W (hR.st hk)).out.mono ?_))
          rintro e w2 ⟨hb, v2, rfl, hown⟩
          go_simp
          refine hK.out _ _ ?_
          exact ⟨(fun jz => if jz = 78 then .slice p.ra p.m p.rc else if jz = 79 then v2 else v jz), rfl, ⟨(fun _ => below_on (hR.st hk) hb), hR.f0.k rfl, (fun _ => rfl), (fun _ _ => own_mn hown (hR.st hk).size), hR.f3.k rfl, hR.x4.keepM rfl (fun h hx => by obtain ⟨B, e, r⟩ := h (upd_false hx); exact ⟨B, e, r.on hb⟩), (fun h => absurd (upd_back h rfl) (by simp [hk5])), hR.f6.k rfl, (fun h => absurd (upd_back h rfl) (by simp [hk])), hR.w1.o rfl, (fun _ j hj => upd_on (hw j hj)), hR.w4.o rfl, hR.w5.o rfl, hR.w7.o rfl⟩⟩
        refine EachOf.cons [] rfl (by kernel_rfl) ?_ ?_
        · rintro L A W ⟨v, rfl, hR⟩ hi hw K hK
          have hk : L 7 = false := hR.w7.not hi rfl
          have q0 := ((hR.st hk).cell (p := ⟨yb, 0, none⟩) LY0.out.2).trans LY0.out.1
          have q1 := ((hR.st hk).cell (p := ⟨yb, 1, none⟩) LY1.out.2).trans LY1.out.1
          have q2 := ((hR.st hk).cell (p := ⟨yb, 2, none⟩) LY2.out.2).trans LY2.out.1
          go_simp
          refine hK.out _ _ ?_
          exact ⟨(fun jz => if jz = 80 then .agg #[.slice q.ca q.ln q.kc, .int .i64 q.kd, .int .i64 q.rt] else v jz), rfl, ⟨(fun h => hR.st (upd_false h)), hR.f0.k rfl, hR.f1.k rfl, hR.x2.keepM rfl (fun h hx => h (upd_false hx)), (fun _ => rfl), hR.x4.keepM rfl (fun h hx => h (upd_false hx)), hR.x5.keepM rfl (fun h hx => h (upd_false hx)), hR.f6.k rfl, hR.s7.k rfl, hR.w1.o rfl, hR.w2.o rfl, hR.w4.o rfl, hR.w5.o rfl, hR.w7.o rfl⟩⟩
        refine EachOf.cons [3] rfl (by kernel_rfl) ?_ ?_
        · rintro L A W ⟨v, rfl, hR⟩ hi hw K hK
          have e3 := hR.f3 (hw 3 (by simp))
          simp only [e3]
          clear e3
          have hk : L 7 = false := hR.w7.not hi rfl
          have hk5 : L 5 = false := hR.w5.not hi rfl
          have hb : Below W.heap.size W (W.alloc _) := (Below.refl _ _).alloc (Nat.le_refl _) (Obj.cells #[.slice q.ca q.ln q.kc, .int .i64 q.kd, .int .i64 q.rt] 50)
          go_simp
          refine hK.out _ _ ?_
          exact ⟨(fun jz => if jz = 80 then .agg #[.slice q.ca q.ln q.kc, .int .i64 q.kd, .int .i64 q.rt] else if jz = 81 then .slice (some ⟨W.heap.size, 0, none⟩) 1 1 else v jz), rfl, ⟨(fun _ => below_on (hR.st hk) hb), hR.f0.k rfl, hR.f1.k rfl, hR.x2.keepM rfl (fun h hx => own_only (h (upd_false hx)) (Only.of_below (S := fun _ => False) hb) (fun _ _ q => q)), (fun _ => rfl), (fun _ _ => ⟨W.heap.size, rfl, SlR.new _ _ _⟩), (fun h => absurd (upd_back h rfl) (by simp [hk5])), hR.f6.k rfl, (fun h => absurd (upd_back h rfl) (by simp [hk])), hR.w1.o rfl, hR.w2.o rfl, (fun _ j hj => upd_on (hw j hj)), hR.w5.o rfl, hR.w7.o rfl⟩⟩
        refine EachOf.cons [2, 4] rfl (by kernel_rfl) ?_ ?_
        · rintro L A W ⟨v, rfl, hR⟩ hi hw K hK
          have hk : L 7 = false := hR.w7.not hi rfl
          have ho := hR.x2 (hw 2 (by simp)) hi
          obtain ⟨pa2, pc2, e79⟩ := own_form ho
          rw [e79] at ho
          obtain ⟨B4, e4, hB4⟩ := hR.x4 (hw 4 (by simp)) hi
          simp only [e79, e4]
          simp only [List.getElem_toArray, List.getElem_cons_succ, List.getElem_cons_zero]
          rw [if_pos (show Region.wanted _ _ = true by rfl)]
          refine wp_append_lies W _ _ 23 (by rfl) x3.heap.size 50 i2 (.agg #[.slice none 0 0, .int .i64 0, .int .i64 0]) 3 40 Try.underlying23 HI2.out.1 HI2.out.2.1 HI2.out.2.2.1 HI2.out.2.2.2 rfl (by decide) (.slice pa2 p.m pc2) p.m _ (by rfl) ho ⟨B4, 0, none⟩ 1 1 [.slice q.ca q.ln q.kc, .int .i64 q.kd, .int .i64 q.rt] (by rfl) rfl (SlR.news hB4) (by intro u hu; simp at hu; rcases hu with hu | hu | hu <;> subst hu <;> rfl) (by omega) (by unfold maxLen; omega) (by omega) (hR.st hk).size _ rfl ?_
          intro g cap w1 hown hgrow hat hlt
          refine hK.out _ _ ?_
          have hA := grown_only (Below.refl _ _) hgrow
          exact ⟨(fun jz => if jz = 79 then .slice pa2 p.m pc2 else if jz = 81 then .slice (some ⟨B4, 0, none⟩) 1 1 else if jz = 82 then .slice (some ⟨g, 0, none⟩) (p.m + 1) cap else v jz), rfl, ⟨(fun _ => (hR.st hk).trans (hA.below (hR.st hk).size (fun c hc => (ho.lt c hc).1))), hR.f0.k rfl, hR.f1.k rfl, (fun _ h => by simp [upd_self] at h), hR.f3.k rfl, (fun _ h => by simp [upd_self] at h), (fun _ _ => ⟨g, cap, rfl, hown⟩), hR.f6.k rfl, (fun h => absurd (upd_back h rfl) (by simp [hk])), hR.w1.o rfl, hR.w2.o rfl, hR.w4.o rfl, (fun _ j hj => upd_on (hw j hj)), hR.w7.o rfl⟩⟩
        refine EachOf.cons [] rfl (by kernel_rfl) ?_ ?_
        · rintro L A W ⟨v, rfl, hR⟩ hi hw K hK
          go_simp
          refine hK.out _ _ ?_
          exact ⟨(fun jz => if jz = 83 then .pointer (some ⟨qb, 1, none⟩) else v jz), rfl, ⟨(fun h => hR.st (upd_false h)), hR.f0.k rfl, hR.f1.k rfl, hR.x2.keepM rfl (fun h hx => h (upd_false hx)), hR.f3.k rfl, hR.x4.keepM rfl (fun h hx => h (upd_false hx)), hR.x5.keepM rfl (fun h hx => h (upd_false hx)), (fun _ => rfl), hR.s7.k rfl, hR.w1.o rfl, hR.w2.o rfl, hR.w4.o rfl, hR.w5.o rfl, hR.w7.o rfl⟩⟩
        refine EachOf.cons [0, 1, 2, 3, 4, 5, 6] rfl (by kernel_rfl) ?_ ?_
        · rintro L A W ⟨v, rfl, hR⟩ hi hw K hK
          obtain ⟨g, cap, e82, ho⟩ := hR.x5 (hw 5 (by simp)) hi
          have e6 := hR.f6 (hw 6 (by simp))
          simp only [e82, e6]
          clear e6
          have qf1 := ((hR.st hi).cell (p := ⟨qb, 1, none⟩) LQ.out.2.2).trans LQ.out.1
          have qf2 := ((hR.st hi).frozen (p := ⟨qb, 1, none⟩) LQ.out.2.2).trans LQ.out.2.1
          go_simp
          refine hK.out _ _ ?_
          exact ⟨(fun jz => if jz = 82 then .slice (some ⟨g, 0, none⟩) (p.m + 1) cap else if jz = 83 then .pointer (some ⟨qb, 1, none⟩) else v jz), rfl, ⟨(fun h => by simp [upd_self] at h), hR.f0.k rfl, hR.f1.k rfl, (fun _ h => absurd (hw 5 (by simp)) (by simp [upd_false h])), hR.f3.k rfl, (fun _ h => absurd (hw 5 (by simp)) (by simp [upd_false h])), (fun _ h => by simp [upd_self] at h), (fun _ => rfl), (fun _ => ⟨W, g, cap, hR.st hi, ho, rfl⟩), hR.w1.o rfl, hR.w2.o rfl, hR.w4.o rfl, hR.w5.o rfl, (fun _ j hj => upd_on (hw j hj))⟩⟩
        exact EachOf.nil
      rintro L A W ⟨v, rfl, hR⟩ hL
      obtain ⟨x4, g, cap, hb4, ho4, rfl⟩ := hR.s7 (hL 7 (by simp))
      have hos := only_set x4 ⟨qb, 1, none⟩ (.slice (some ⟨g, 0, none⟩) (p.m + 1) cap)
      have HB := Lib.hid ((below_on HB.out hb4).setCell (p := ⟨qb, 1, none⟩) HQL.out.2 (.slice (some ⟨g, 0, none⟩) (p.m + 1) cap))
      have HK := Lib.hid ((HK.out.on hb4).lo (B := qb) ((Below.refl qb _).setCell (p := ⟨qb, 1, none⟩) (Nat.le_refl qb) (.slice (some ⟨g, 0, none⟩) (p.m + 1) cap)) HQL.out.1)
      have ho5 := own_only ho4 hos (fun c hc e => by
        have h1 := (ho4.lt c hc).1
        have e3 : c = qb := e
        have := LQ.out.2.2
        omega)
      have LQ1 : Hid ((x4.setCell ⟨qb, 1, none⟩ (.slice (some ⟨g, 0, none⟩) (p.m + 1) cap)).cell? ⟨qb, 1, none⟩ = some (.slice (some ⟨g, 0, none⟩) (p.m + 1) cap)) := World.cell?_setCell_same' _ _ _ (by rw [(hb4.cell (p := ⟨qb, 1, none⟩) LQ.out.2.2).trans LQ.out.1]; rfl)
      have LQ0 : Hid ((x4.setCell ⟨qb, 1, none⟩ (.slice (some ⟨g, 0, none⟩) (p.m + 1) cap)).cell? ⟨qb, 0, none⟩ = some (.slice p.ca p.n p.cc)) := by
        show _ = _
        rw [World.cell?_setCell_other _ _ _ _ (adr_ne (b := qb) (i := 1) (j := 0) (by omega))]
        exact (hb4.cell (p := ⟨qb, 0, none⟩) LQ.out.2.2).trans LQ0.out
      have hatq := moQ_at (HP.out.on HB.out) (HQI.out.on HB.out) ho5
      have CQ := Lib.hid (Solve_any (moQ p (some ⟨g, 0, none⟩) cap q) (moQ_sm _ _ q HS.out hm8 hql) _ hatq)
      have hqv : (moQ p (some ⟨g, 0, none⟩) cap q).val = .agg #[.slice p.ca p.n p.cc, .slice (some ⟨g, 0, none⟩) (p.m + 1) cap] := rfl
      rw [hqv] at CQ
      clear hb4 ho4 ho5 hos hR hL hatq hqv CP LX LY0 LY1 LY2 LQ HQL
      generalize x4.setCell ⟨qb, 1, none⟩ (.slice (some ⟨g, 0, none⟩) (p.m + 1) cap) = x5 at *
      have q0 := LQ0.out
      have q1 := LQ1.out
      go_wp2_with fail
      (with_reducible refine ((CQ.out).mono ?_))
      rintro e x6 ⟨hb2, vl3, er3, rfl, hso3⟩
      have HK := Lib.hid (HK.out.on hb2)
      have HB := Lib.hid (below_on HB.out hb2)
      obtain ⟨a3, d3, xa3, xn3, xc3, ya3, yn3, yc3, hvl3⟩ := solo_form hso3
      have hmo := mo_sol (moQ_is p (some ⟨g, 0, none⟩) cap q) HSO.out hso3
      have HVL3 := Lib.hid hvl3
      rw [hvl3]
      clear hso3 hvl3 CQ q0 q1 LQ0 LQ1 hb2
      go_upto_region 21 with fail
      have hb2 : Below x6.heap.size x6 (x6.alloc (Obj.cells #[.int .i64 a3, .int .i64 d3, .slice xa3 xn3 xc3, .slice ya3 yn3 yc3] 38)) := (Below.refl _ _).alloc (Nat.le_refl _) _
      obtain ⟨x7, hx7⟩ : ∃ W, W = x6.alloc (Obj.cells #[.int .i64 a3, .int .i64 d3, .slice xa3 xn3 xc3, .slice ya3 yn3 yc3] 38) := ⟨_, rfl⟩
      obtain ⟨cb, hcb⟩ : ∃ x, x = x6.heap.size := ⟨_, rfl⟩
      rw [← hcb, ← hx7]
      rw [← hx7] at hb2
      have l0 : x7.cell? ⟨cb, 0, none⟩ = some (.int .i64 a3) := by rw [hx7, hcb]; simp [go_sem]
      have l1 : x7.cell? ⟨cb, 1, none⟩ = some (.int .i64 d3) := by rw [hx7, hcb]; simp [go_sem]
      have l2 : x7.cell? ⟨cb, 2, none⟩ = some (.slice xa3 xn3 xc3) := by rw [hx7, hcb]; simp [go_sem]
      have l3 : x7.cell? ⟨cb, 3, none⟩ = some (.slice ya3 yn3 yc3) := by rw [hx7, hcb]; simp [go_sem]
      have HK := Lib.hid (HK.out.on hb2)
      have HB := Lib.hid (below_on HB.out hb2)
      clear hx7 hcb hb2
      rcases hmo with ⟨h15, hz⟩ | ⟨rfl, rfl⟩ | ⟨rfl, rfl⟩ | ⟨rfl, h1, h5⟩ | ⟨rfl, rfl, hva⟩
      · have hz2 : Value.agg #[.int .i64 a3, .int .i64 d3, .slice xa3 xn3 xc3, .slice ya3 yn3 yc3] = aV (0, 0) (.slice none 0 0) (.slice none 0 0) := by rw [← HVL3.out]; exact hz
        unfold aV at hz2
        injection hz2 with hz2
        injection hz2 with hz2
        simp only [List.cons.injEq, Value.int.injEq, Value.slice.injEq, true_and, and_true] at hz2
        obtain ⟨rfl, rfl, ⟨rfl, rfl, rfl⟩, rfl, rfl, rfl⟩ := hz2
        clear hz HVL3 HVL HSO
        rcases h15 with rfl | rfl
        · go_wp2_with fail
          (with_reducible refine (((HCZ.out _).out).mono ?_))
          rintro e x8 ⟨rfl, hb2⟩
          have HB := Lib.hid (below_on HB.out hb2)
          clear HCZ l0 l1 l2 l3 hb2
          go_wp2_with fail
          go_ret
          exact ⟨rfl, HB.out⟩
        · go_wp2_with fail
          (with_reducible refine (((HCZ.out _).out).mono ?_))
          rintro e x8 ⟨rfl, hb2⟩
          have HB := Lib.hid (below_on HB.out hb2)
          clear HCZ l0 l1 l2 l3 hb2
          go_wp2_with fail
          go_ret
          exact ⟨rfl, HB.out⟩
      · clear HVL3 HVL HSO l0 l1 l2 l3
        go_wp2_with fail
        go_ret
        exact ⟨rfl, HB.out⟩
      · clear HVL3 HVL HSO l0 l1 l2 l3
        go_wp2_with fail
        go_ret
        exact ⟨rfl, HB.out⟩
      · have t1 : (er3 == 1) = false := by simpa using h1
        have t2 : (er3 == 5) = false := by simpa using h5
        have t3 : ¬ er3 = 1 := h1
        have t4 : ¬ er3 = 5 := h5
        clear HVL3 HVL HSO l0 l1 l2 l3 h1 h5
        go_wp2_with fail
        go_ret
        exact ⟨rfl, HB.out⟩
      · have hx := hva a d a3 d3 ⟨_, _, HVL.out⟩ ⟨_, _, HVL3.out⟩
        have va := hx.1
        have vr := hx.2.1
        have hc : cmpT a d a3 d3 = (sgn (a * d3 + -a3 * d), 0) := by
          unfold cmpT
          rw [if_pos ⟨vB_yes va, vB_yes vr⟩]
        obtain ⟨k, hk⟩ : ∃ k, sgn (a * d3 + -a3 * d) = k := ⟨_, rfl⟩
        have hk0 := hx.2.2
        rw [hk] at hc hk0
        have u1 := va.d1
        have u2 := va.d2
        have u3 := va.n1
        have u4 := va.n2
        have u5 := vr.d1
        have u6 := vr.d2
        have u7 := vr.n1
        have u8 := vr.n2
        have CM := fun W => Lib.hid (Cmp_any a d a3 d3 W (by omega) (by omega) (by omega) (by omega) (by omega) (by omega) (by omega) (by omega) k 0 hc)
        have k0 := HK.out.a.c0
        have k1 := HK.out.a.c1
        have dk : decide (k ≤ 0) = true := decide_eq_true hk0
        clear hx va vr hc hk u1 u2 u3 u4 u5 u6 u7 u8 hva HVL HVL3 HSO
        go_wp2_with fail
        (with_reducible refine (((CM _).out).mono ?_))
        rintro e x8 ⟨rfl, hb2⟩
        have HB := Lib.hid (below_on HB.out hb2)
        clear hb2 CM k0 k1 l0 l1 l2 l3
        go_wp2_with fail
        go_ret
        exact ⟨rfl, HB.out⟩
theorem more_at (p : PgD) (q : RwD) (w : World) (hp : p.At w) (hs : p.Sm) (hq : IRow w q.ca q.ln q.z) : Calls Try.prog 6 #[p.val, .agg #[.slice q.ca q.ln q.kc, .int .i64 q.kd, .int .i64 q.rt]] w fun e w' => e = .returned (.bool true) ∧ Below w.heap.size w w' := lawMore_any p hs q w hp hq
end Go.Proofs.Ytdbmlkkpffoadaa

namespace Go.Proofs.Ytdbmlkkpffoadaa
set_option linter.unusedVariables false
open Go.RowKit Go.Shelf Go.ChangeShapes Go.WideShapes Go.Joins Go.Deep
set_option maxRecDepth 1000000 in
theorem open_rw {H : Type} {enc : TypeId × Value → H} {W : World} {base : Nat} {v : Value} {d : DataW H} {p : List MemPlace} (hval : Value.okWide Try.prog W .any base 50 v) (h : DataW.Trod enc Try.prog W 0 (fun _ => true) true 50 v d p) :
    ∃ q : RwD, v = .agg #[.slice q.ca q.ln q.kc, .int .i64 q.kd, .int .i64 q.rt] ∧ IRow W q.ca q.ln q.z := by
  obtain ⟨v0, v1, v2, y0, y1, y2, n, rfl, _, _, h0, h1, h2⟩ := open_agg3 Try.underlying50 (by kernel_rfl) (by kernel_rfl) hval h
  obtain ⟨ra, ln, kc, z, rfl, hr, _⟩ := row_at h0
  obtain ⟨kd, hkd, _, _⟩ := DataW.trod_int Try.underlying3 h1
  obtain ⟨rt, hrt, _, _⟩ := DataW.trod_int Try.underlying3 h2
  simp at hkd hrt
  subst hkd
  subst hrt
  exact ⟨⟨ra, ln, kc, z, kd, rt⟩, rfl, hr⟩
end Go.Proofs.Ytdbmlkkpffoadaa
