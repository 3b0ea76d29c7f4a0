/- Layer 10's reference: the matrix. -/
import Derived.Test.YtcghjjfpjiacfaaDoorKRP1
namespace Go.Proofs.YtcghjjfpjiacfaaDoor
open Go.ChangeShapes Go.WideShapes Go.ChangeAt Go.RowKit Go.Joins Go.Deep Go.Shelf
set_option linter.unusedVariables false

/-- A built slice's own block. -/
def SlR (W : World) (B : Nat) (l : List Value) : Prop := B < W.heap.size ∧ ∀ j u, l[j]? = some u → W.cell? ⟨B, j, none⟩ = some u
theorem SlR.on {W W2 : World} {B : Nat} {l : List Value} (h : SlR W B l) (hb : Below W.heap.size W W2) : SlR W2 B l := ⟨Nat.lt_of_lt_of_le h.1 hb.size, fun j u hu => (hb.cell (p := ⟨B, j, none⟩) h.1).trans (h.2 j u hu)⟩
theorem SlR.new (W : World) (l : List Value) (t : Nat) : SlR (W.alloc (Obj.cells l.toArray t)) W.heap.size l := ⟨by simp, fun j u hu => by simp [go_sem, hu]⟩
theorem SlR.news {W : World} {B : Nat} {l : List Value} (h : SlR W B l) : ∀ j u, l[j]? = some u → W.cell? ((⟨B, 0, none⟩ : Addr).add j) = some u := fun j u hu => by
  rw [show (⟨B, 0, none⟩ : Addr).add j = ⟨B, j, none⟩ by unfold Addr.add; split <;> simp_all]
  exact h.2 j u hu
/-- Rows of integers as they lie. -/
def RwL (W : World) (pa : Option Addr) (n m : Nat) (E : Nat → Nat → Int) : Prop := 0 < n → ∃ b o, pa = some ⟨b, o, none⟩ ∧ b < W.heap.size ∧ ∀ i, i < n → ∃ g c, W.cell? ⟨b, o + i, none⟩ = some (.slice (some ⟨g, 0, none⟩) m c) ∧ g < W.heap.size ∧ ∀ j, j < m → W.cell? ⟨g, j, none⟩ = some (.int .i64 (E i j))
theorem RwL.on {W W2 : World} {pa : Option Addr} {n m : Nat} {E : Nat → Nat → Int} (h : RwL W pa n m E) (hb : Below W.heap.size W W2) : RwL W2 pa n m E := fun hn => by
  obtain ⟨b, o, h1, h2, h3⟩ := h hn
  refine ⟨b, o, h1, Nat.lt_of_lt_of_le h2 hb.size, fun i hi => ?_⟩
  obtain ⟨g, c, h4, h5, h6⟩ := h3 i hi
  exact ⟨g, c, (hb.cell (p := ⟨b, o + i, none⟩) h2).trans h4, Nat.lt_of_lt_of_le h5 hb.size, fun j hj => (hb.cell (p := ⟨g, j, none⟩) h5).trans (h6 j hj)⟩
theorem Grid.rwl {B0 : Nat} {W : World} {b R n : Nat} {G C : Nat → Nat} {E : Nat → Nat → Int} (h : Grid B0 W b R n G C E) : RwL W (some ⟨b, 0, none⟩) R n E := fun _ => ⟨b, 0, rfl, h.hb, fun i hi => ⟨G i, C i, by rw [Nat.zero_add]; exact h.top i hi, (h.row i hi).2.1, fun j hj => h.cell i j hi hj⟩⟩
/-- An own list of rows of m integers. -/
structure MtO (W : World) (base : Nat) (v : Value) (j m : Nat) (G C : Nat → Nat) (E : Nat → Nat → Int) : Prop where
  own : W.ownsRow base 43 1 v j ((List.range j).map fun l => Value.slice (some ⟨G l, 0, none⟩) m (C l))
  row : ∀ l, l < j → G l < W.heap.size ∧ (∀ q, v.ownBlock = some q → G l ≠ q) ∧ ∀ x, x < m → W.cell? ⟨G l, x, none⟩ = some (.int .i64 (E l x))
theorem MtO.start (W : World) (base m : Nat) (G C : Nat → Nat) (E : Nat → Nat → Int) : MtO W base (.slice none 0 0) 0 m G C E := ⟨⟨rfl, .inl ⟨rfl, rfl⟩⟩, fun l h => by omega⟩
theorem MtO.on {W W2 : World} {base j m : Nat} {v : Value} {G C : Nat → Nat} {E : Nat → Nat → Int} (h : MtO W base v j m G C E) (hb : Below W.heap.size W W2) : MtO W2 base v j m G C E :=
  ⟨own_only h.own (Only.of_below (S := fun _ => False) hb) (fun _ _ q => q), fun l hl => ⟨Nat.lt_of_lt_of_le (h.row l hl).1 hb.size, (h.row l hl).2.1, fun x hx => (hb.cell (p := ⟨G l, x, none⟩) (h.row l hl).1).trans ((h.row l hl).2.2 x hx)⟩⟩
theorem MtO.push {W W2 : World} {base j m : Nat} {v : Value} {G C : Nat → Nat} {E : Nat → Nat → Int} (h : MtO W base v j m G C E) (g c : Nat) (hg : g < W.heap.size) (hne : ∀ q, v.ownBlock = some q → g ≠ q) (hc : ∀ x, x < m → W.cell? ⟨g, x, none⟩ = some (.int .i64 (E j x))) {g2 cap : Nat}
    (ho : W2.ownsRow base 43 1 (.slice (some ⟨g2, 0, none⟩) (j + 1) cap) (j + 1) (((List.range j).map fun l => Value.slice (some ⟨G l, 0, none⟩) m (C l)) ++ [.slice (some ⟨g, 0, none⟩) m c]))
    (hgr : W.grownBy W2 v.ownBlock) (ha : v.ownBlock = some g2 ∨ g2 = W.heap.size) :
    MtO W2 base (.slice (some ⟨g2, 0, none⟩) (j + 1) cap) (j + 1) m (fun l => if l = j then g else G l) (fun l => if l = j then c else C l) E := by
  have hon := grown_only (Below.refl W.heap.size W) hgr
  have key : ∀ b, b < W.heap.size → (∀ q, v.ownBlock = some q → b ≠ q) → b < W2.heap.size ∧ (∀ q, (Value.slice (some ⟨g2, 0, none⟩) (j + 1) cap).ownBlock = some q → b ≠ q) ∧ ∀ x, W2.cell? ⟨b, x, none⟩ = W.cell? ⟨b, x, none⟩ := fun b hb hn => by
    refine ⟨Nat.lt_of_lt_of_le hb hon.size, fun q hq => ?_, fun x => hon.cell (p := ⟨b, x, none⟩) hb (fun e => hn b e rfl)⟩
    simp [Value.ownBlock] at hq
    subst hq
    rcases ha with ha | ha
    · exact hn _ ha
    · omega
  refine ⟨?_, fun l hl => ?_⟩
  · have e : ((List.range (j + 1)).map fun l => Value.slice (some ⟨if l = j then g else G l, 0, none⟩) m (if l = j then c else C l)) = ((List.range j).map fun l => Value.slice (some ⟨G l, 0, none⟩) m (C l)) ++ [.slice (some ⟨g, 0, none⟩) m c] := by
      rw [List.range_succ, List.map_append]
      congr 1
      · refine List.map_congr_left fun l hl => ?_
        have := List.mem_range.1 hl
        rw [if_neg (by omega), if_neg (by omega)]
      · simp
    rw [e]
    exact ho
  · by_cases q : l = j
    · subst q
      simp only [if_pos]
      obtain ⟨k1, k2, k3⟩ := key g hg hne
      exact ⟨k1, k2, fun x hx => by rw [k3 x]; exact hc x hx⟩
    · simp only [if_neg q]
      have hr := h.row l (by omega)
      obtain ⟨k1, k2, k3⟩ := key (G l) hr.1 hr.2.1
      exact ⟨k1, k2, fun x hx => by rw [k3 x]; exact hr.2.2 x hx⟩
theorem MtO.rwl {W : World} {base j m : Nat} {ra : Option Addr} {rc : Nat} {G C : Nat → Nat} {E : Nat → Nat → Int} (h : MtO W base (.slice ra j rc) j m G C E) : RwL W ra j m E := fun hn => by
  rcases h.own.2 with ⟨_, h0⟩ | ⟨g, cap, cur, hv, hb, hg, hc, _⟩
  · omega
  · injection hv with e1 _ e3
    subst e1
    refine ⟨g, 0, rfl, (Array.getElem?_eq_some_iff.1 hg).1, fun i hi => ⟨G i, C i, ?_, (h.row i hi).1, (h.row i hi).2.2⟩⟩
    have := World.ownsRow.cells h.own (g := g) (by rfl) i (.slice (some ⟨G i, 0, none⟩) m (C i)) (by simp [hi])
    rw [Nat.zero_add]
    rwa [show (⟨g, 0, none⟩ : Addr).add i = ⟨g, i, none⟩ by unfold Addr.add; split <;> simp_all] at this
theorem wpList_app_row {P : Program} (w : World) {ops : Array Oper} {rest : List Oper} {o : Oper} {a : Act} {Q : Exit → Act → World → Prop} (hP : P = Tryd.prog)
    (hgd : o.guard = none) (s x : Operand) (ho : o.op = .call { callee := .builtin .append, args := #[s, x], argTypes := #[40, 40] })
    (base j m : Nat) (v : Value) (G C : Nat → Nat) (E : Nat → Nat → Int) (hs : a.eval s = v) (hown : MtO w base v j m G C E) (ad : Addr) (c : Nat) (hx : a.eval x = .slice (some ad) 1 c) (g cg : Nat) (hc : w.cell? ad = some (.slice (some ⟨g, 0, none⟩) m cg))
    (hg : g < w.heap.size) (hne : ∀ q, v.ownBlock = some q → g ≠ q) (hcs : ∀ x, x < m → w.cell? ⟨g, x, none⟩ = some (.int .i64 (E j x))) (hn : j < 1000) (hbase : base ≤ w.heap.size)
    (h : ∀ g2 cap w', MtO w' base (.slice (some ⟨g2, 0, none⟩) (j + 1) cap) (j + 1) m (fun l => if l = j then g else G l) (fun l => if l = j then cg else C l) E → w.grownBy w' v.ownBlock → wpList P ops Q rest (a.put o.dst (.slice (some ⟨g2, 0, none⟩) (j + 1) cap)) w') : wpList P ops Q (o :: rest) a w := by
  subst hP
  obtain ⟨i0, hi0, hz0, hz1, hz2⟩ := info_parts (show (Tryd.prog.info? 43).map (fun i => (i.zero, i.size, i.bytes)) = some (some (Value.slice none 0 0), 1, 24) by kernel_rfl)
  refine wpList_append_lies w hgd s x 40 ho base 43 i0 (.slice none 0 0) 1 24 Tryd.underlying40 hi0 hz0 hz1 hz2 rfl (by decide) v j _ hs hown.own ad 1 c [.slice (some ⟨g, 0, none⟩) m cg] hx rfl (fun j u hu => ?_) (by intro u hu; simp at hu; subst hu; rfl) (by omega) (by unfold maxLen; omega) (by omega) hbase _ rfl ?_
  · cases j with
    | zero =>
      simp at hu
      subst hu
      rw [show ad.add 0 = ad by unfold Addr.add; split <;> simp_all]
      exact hc
    | succ j => simp at hu
  · intro g2 cap w' h2 h3 h4 h5
    exact h g2 cap w' (hown.push g cg hg hne hcs h2 h3 h4) h3
structure KrmR (s : Sys) (xb bb bo rb ro nb nr i k qc B0 : Nat) (qa : Option Addr) (E : Nat → Nat → Int) (Wc : World) (L : Nat → Bool) (v : Nat → Value) (W : World) : Prop where
  st : L 14 = false → Below Wc.heap.size Wc W
  f0 : Had L 0 (v 21 = .slice qa k qc)
  f1 : Had L 1 (v 22 = .pointer (some ⟨xb, 1, none⟩))
  f2 : Had L 2 (v 23 = .slice (some ⟨rb, ro, none⟩) (nr) (s.rc))
  f3 : Had L 3 (v 24 = .int .i64 (k : Int))
  f4 : Had L 4 (v 25 = .pointer (some ⟨rb, ro + k * 3, none⟩))
  f5 : Had L 5 (v 26 = .agg #[.string (s.R k).name, .slice (s.R k).ha (s.R k).n (s.R k).hc, .bool (s.R k).hauled])
  f6 : Had L 6 (v 27 = .pointer (some ⟨xb, 0, none⟩))
  f7 : Had L 7 (v 28 = .slice (some ⟨bb, bo, none⟩) (nb) (s.bc))
  f8 : Had L 8 (v 29 = .int .i64 (i : Int))
  f9 : Had L 9 (v 30 = .pointer (some ⟨bb, bo + i * 2, none⟩))
  f10 : Had L 10 (v 31 = .pointer (some ⟨bb, bo + i * 2, none⟩))
  f11 : Had L 11 (v 32 = .string (s.bn i))
  f12 : Had L 12 (v 33 = .int .i64 (E i k))
  x13 : Had L 13 (L 14 = false → ∃ B, v 34 = .slice (some ⟨B, 0, none⟩) 1 1 ∧ SlR W B [.int .i64 (E i k)])
  x14 : Had L 14 (AppW Wc W B0 3 (.slice qa k qc) k (((List.range k).map fun l => Value.int .i64 (E i l)) ++ [Value.int .i64 (E i k)]) (v 35))
  f15 : Had L 15 (v 5 = v 35)
  i5 : L 15 = false → v 5 = .slice qa k qc
  w2 : Had L 2 (∀ j ∈ [1], L j = true)
  w4 : Had L 4 (∀ j ∈ [2, 3], L j = true)
  w5 : Had L 5 (∀ j ∈ [4], L j = true)
  w7 : Had L 7 (∀ j ∈ [6], L j = true)
  w9 : Had L 9 (∀ j ∈ [7, 8], L j = true)
  w10 : Had L 10 (∀ j ∈ [9], L j = true)
  w11 : Had L 11 (∀ j ∈ [10], L j = true)
  w12 : Had L 12 (∀ j ∈ [5, 11], L j = true)
  w13 : Had L 13 (∀ j ∈ [12], L j = true)
  w14 : Had L 14 (∀ j ∈ [0, 13], L j = true)
  w15 : Had L 15 (∀ j ∈ [14], L j = true)
set_option maxRecDepth 100000 in
set_option maxHeartbeats 16000000 in
theorem rMatrix_any (s : Sys) (w : World) (hs : s.At w) (hsm : SysSm s) (ho : SysOk s) :
    Calls Tryd.prog 27 #[.agg #[.slice s.ba s.nb s.bc, .slice s.ra s.nr s.rc]] w fun e w' => ∃ pa pc, e = .returned (.slice pa s.nb pc) ∧ RwL w' pa s.nb s.nr (mtx s) ∧ Below w.heap.size w w' := by
  have hb9 := hsm.b
  have hr9 := hsm.r
  have hb1 := ho.b1
  have hr1 := ho.r1
  obtain ⟨w1, hw1⟩ : ∃ W, W = w.alloc (Obj.cells #[Value.slice s.ba s.nb s.bc, .slice s.ra s.nr s.rc] 36) := ⟨_, rfl⟩
  obtain ⟨xb, hxb⟩ : ∃ x, x = w.heap.size := ⟨_, rfl⟩
  have hC : C2 w1 xb (.slice s.ba s.nb s.bc) (.slice s.ra s.nr s.rc) := by rw [hw1, hxb]; exact C2.new _ _ _ _
  have hB : Below w.heap.size w w1 := by rw [hw1]; exact (Below.refl _ _).alloc (Nat.le_refl _) _
  have HB := Lib.hid hB
  obtain ⟨rb, ro, hre, hrb, hrc⟩ := (hs.on hB).r.l (by omega)
  obtain ⟨bb, bo, hbe, hbb, hbc⟩ := (hs.on hB).b (by omega)
  rw [hre, hbe] at hC hw1
  rw [hre, hbe]
  have HC := Lib.hid hC
  obtain ⟨nb, hnb⟩ : ∃ x, s.nb = x := ⟨_, rfl⟩
  obtain ⟨nr, hnr⟩ : ∃ x, s.nr = x := ⟨_, rfl⟩
  have HNB := Lib.hid (And.intro hnb hnr)
  rw [hnb] at hb9 hb1 hw1 hbc HC
  rw [hnr] at hr9 hr1 hw1 hrc HC
  rw [hnb, hnr]
  have HT := Lib.hid (And.intro hrb hrc)
  have HU := Lib.hid (And.intro hbb hbc)
  have CP : Hid (∀ i k, i < nb → k < nr → ∀ W, Below w1.heap.size w1 W → Calls Tryd.prog 77 #[.agg #[.string (s.R k).name, .slice (s.R k).ha (s.R k).n (s.R k).hc, .bool (s.R k).hauled], .string (s.bn i)] W fun e w' => e = .returned (.int .i64 (mtx s i k)) ∧ Below W.heap.size W w') := fun i k hi hk W hW =>
    rPull_any (s.R k).name (s.R k).ha (s.R k).n (s.R k).hc (s.R k).hs (s.R k).hauled (s.bn i) W (knB s.bn s.nb) (ho.rop k (by omega)) ((hs.on (below_on hB hW)).r.h k (by omega))
  obtain ⟨E, hE⟩ : ∃ E : Nat → Nat → Int, mtx s = E := ⟨_, rfl⟩
  rw [hE] at CP
  rw [hE]
  obtain ⟨i0, hi0, hz0, hz1, hz2⟩ := info_parts (show (Tryd.prog.info? 3).map (fun i => (i.zero, i.size, i.bytes)) = some (some (Value.int IntKind.i64 0), 1, 8) by kernel_rfl)
  have HI := Lib.hid (And.intro hi0 (And.intro hz0 (And.intro hz1 hz2)))
  have S0 : Hid (Below w1.heap.size w1 w1 ∧ MtO w1 w1.heap.size (.slice none 0 0) 0 nr (fun _ => 0) (fun _ => 0) E) := ⟨Below.refl _ _, MtO.start _ _ _ _ _ _⟩
  clear hs hC hB hsm ho hnb hnr hre hrb hrc hbe hbb hbc hE hi0 hz0 hz1 hz2
  go_enter Tryd.func27, Tryd.ntmps27
  go_upto_region 1 with fail
  rw [← hxb, ← hw1]
  clear hxb hw1
  have c0 := HC.out.c0
  go_wp2_with fail
  clear c0
  go_loopg [3, 4] nb (fun mm s3 s4 wx => ∃ i : Nat, s4 = .int .i64 (i : Int) ∧ mm = nb - i ∧ i ≤ nb ∧ ∃ G C, Hid (Below w1.heap.size w1 wx ∧ MtO wx w1.heap.size s3 i nr G C E))
  case atStart => exact ⟨0, rfl, rfl, Nat.zero_le _, _, _, S0⟩
  case round =>
    clear S0
    obtain ⟨i, rfl, rfl, hi, G, C, S⟩ := hrel
    rename World => W1
    obtain ⟨pa, pc, hpv⟩ := own_form S.out.2.own
    subst hpv
    have c0 := (S.out.1.cell (p := ⟨xb, 0, none⟩) HC.out.lt).trans HC.out.c0
    have c1 := (S.out.1.cell (p := ⟨xb, 1, none⟩) HC.out.lt).trans HC.out.c1
    by_cases hlt : i < nb
    · have li : (i : Int) < (nb : Int) := by omega
      have wi : IntKind.i64.wrap ((i : Int) + 1) = ((i + 1 : Nat) : Int) := by rw [IntWalk.i64_in _ (by omega)]; omega
      have S2 : Hid (Below W1.heap.size W1 W1 ∧ StI W1 W1.heap.size (.slice none 0 0) 0 (E i)) := ⟨Below.refl _ _, StI.start _ _ _⟩
      have L0 := Lib.hid (And.intro c0 (Nat.lt_of_lt_of_le HC.out.lt S.out.1.size))
      have L1 := Lib.hid (And.intro c1 (Nat.lt_of_lt_of_le HC.out.lt S.out.1.size))
      clear c1
      go_wp2_with fail
      clear c0
      go_loopg [5, 6] nr (fun mm s5 s6 wx => ∃ k : Nat, s6 = .int .i64 (k : Int) ∧ mm = nr - k ∧ k ≤ nr ∧ Hid (Below W1.heap.size W1 wx ∧ StI wx W1.heap.size s5 k (E i)))
      case atStart => exact ⟨0, rfl, rfl, Nat.zero_le _, S2⟩
      case round =>
        clear S2
        obtain ⟨k, rfl, rfl, hk, S2⟩ := hrel
        rename World => W2
        obtain ⟨qa, qc, hqv⟩ := own_form S2.out.2
        subst hqv
        have c1 := (S2.out.1.cell (p := ⟨xb, 1, none⟩) L1.out.2).trans L1.out.1
        by_cases hlk : k < nr
        · have lk : (k : Int) < (nr : Int) := by omega
          have wk : IntKind.i64.wrap ((k : Int) + 1) = ((k + 1 : Nat) : Int) := by rw [IntWalk.i64_in _ (by omega)]; omega
          go_upto_region 9 with fail
          have BW := Lib.hid (below_on S.out.1 S2.out.1)
          have LS0 := Lib.hid (And.intro ((S2.out.1.cell (p := ⟨xb, 0, none⟩) L0.out.2).trans L0.out.1) (Nat.lt_of_lt_of_le L0.out.2 S2.out.1.size))
          have LS1 := Lib.hid (And.intro c1 (Nat.lt_of_lt_of_le L1.out.2 S2.out.1.size))
          have LN := Lib.hid (And.intro ((BW.out.cell (p := ⟨bb, bo + i * 2, none⟩) HU.out.1).trans (HU.out.2 i hlt).1) (Nat.lt_of_lt_of_le HU.out.1 BW.out.size))
          have hgl := Nat.lt_of_lt_of_le HT.out.1 BW.out.size
          have LR0 := Lib.hid (And.intro ((BW.out.cell (p := ⟨rb, ro + k * 3, none⟩) HT.out.1).trans (HT.out.2 k hlk).1) hgl)
          have LR1 := Lib.hid (And.intro ((BW.out.cell (p := ⟨rb, ro + k * 3 + 1, none⟩) HT.out.1).trans (HT.out.2 k hlk).2.1) hgl)
          have LR2 := Lib.hid (And.intro ((BW.out.cell (p := ⟨rb, ro + k * 3 + 2, none⟩) HT.out.1).trans (HT.out.2 k hlk).2.2) hgl)
          have LO : Hid (W2.ownsRow W1.heap.size 3 1 (.slice qa k qc) k ((List.range k).map fun l => Value.int .i64 (E i l))) := S2.out.2
          have LB := Lib.hid S2.out.1.size
          have CPk : Hid (∀ W, Below W2.heap.size W2 W → Calls Tryd.prog 77 #[.agg #[.string (s.R k).name, .slice (s.R k).ha (s.R k).n (s.R k).hc, .bool (s.R k).hauled], .string (s.bn i)] W fun e w' => e = .returned (.int .i64 (E i k)) ∧ Below W.heap.size W w') := fun W hW => CP.out i k hlt hlk W (below_on BW.out hW)
          obtain ⟨B0, hB0⟩ : ∃ z, W1.heap.size = z := ⟨_, rfl⟩
          have HBZ := Lib.hid hB0
          rw [hB0] at LO LB
          clear c1 hgl hB0
          refine wp_region_each (fun L A W => ∃ (v : Nat → Value), A = ⟨#[_, _, _, _, _, v 5, _, _, _, _, _, _, _, _, _, _, _, _, _, _, _, v 21, v 22, v 23, v 24, v 25, v 26, v 27, v 28, v 29, v 30, v 31, v 32, v 33, v 34, v 35, _, _, _, _, _], []⟩ ∧ KrmR s xb bb bo rb ro nb nr i k qc B0 qa E W2 L v W) (by kernel_rfl) (by kernel_rfl) ⟨fun jz => if jz = 21 then u21 else if jz = 22 then u22 else if jz = 23 then u23 else if jz = 24 then u24 else if jz = 25 then u25 else if jz = 26 then u26 else if jz = 27 then u27 else if jz = 28 then u28 else if jz = 29 then u29 else if jz = 30 then u30 else if jz = 31 then u31 else if jz = 32 then u32 else if jz = 33 then u33 else if jz = 34 then u34 else if jz = 35 then u35 else if jz = 5 then .slice qa k qc else undef, rfl, ⟨(fun _ => Below.drew (Below.refl _ _)), Had.none, Had.none, Had.none, Had.none, Had.none, Had.none, Had.none, Had.none, Had.none, Had.none, Had.none, Had.none, Had.none, Had.none, Had.none, Had.none, (fun _ => rfl), Had.none, Had.none, Had.none, Had.none, Had.none, Had.none, Had.none, Had.none, Had.none, Had.none, Had.none⟩⟩ (rs := [0, 1, 2, 3, 4, 5, 6, 7, 8, 9, 10, 11, 12, 13, 14, 15]) (by kernel_rfl) ?_ ?_
          · refine EachOf.cons [] rfl (by kernel_rfl) ?_ ?_
            · rintro L A W ⟨v, rfl, hR⟩ hi hw K hK
              have hk : L 14 = false := hR.w14.not hi rfl
              have ei5 := hR.i5 (hR.w15.not (hR.w14.not hi rfl) rfl)
              simp only [ei5]
              have hkw14 : L 14 = false := hR.w14.not hi rfl
              go_simp
              refine hK.out _ _ ?_
              exact ⟨(fun jz => if jz = 5 then .slice qa k qc else if jz = 21 then .slice qa k qc else v jz), rfl, ⟨(fun h => hR.st (upd_false h)), (fun _ => rfl), hR.f1.k, hR.f2.k, hR.f3.k, hR.f4.k, hR.f5.k, hR.f6.k, hR.f7.k, hR.f8.k, hR.f9.k, hR.f10.k, hR.f11.k, hR.f12.k, hR.x13.keepM rfl (fun h hx => h (upd_false hx)), hR.x14.k, (fun h => absurd (hR.w15 (upd_back h (by decide)) 14 (by simp)) (by simp [hkw14])), (fun h => rfl), hR.w2.o, hR.w4.o, hR.w5.o, hR.w7.o, hR.w9.o, hR.w10.o, hR.w11.o, hR.w12.o, hR.w13.o, hR.w14.o, hR.w15.o⟩⟩
            refine EachOf.cons [] rfl (by kernel_rfl) ?_ ?_
            · rintro L A W ⟨v, rfl, hR⟩ hi hw K hK
              have hk : L 14 = false := hR.w14.not (hR.w13.not (hR.w12.not (hR.w5.not (hR.w4.not (hR.w2.not hi rfl) rfl) rfl) rfl) rfl) rfl
              have hkw14 : L 14 = false := hR.w14.not (hR.w13.not (hR.w12.not (hR.w5.not (hR.w4.not (hR.w2.not hi rfl) rfl) rfl) rfl) rfl) rfl
              go_simp
              refine hK.out _ _ ?_
              exact ⟨(fun jz => if jz = 22 then .pointer (some ⟨xb, 1, none⟩) else v jz), rfl, ⟨(fun h => hR.st (upd_false h)), hR.f0.k, (fun _ => rfl), hR.f2.k, hR.f3.k, hR.f4.k, hR.f5.k, hR.f6.k, hR.f7.k, hR.f8.k, hR.f9.k, hR.f10.k, hR.f11.k, hR.f12.k, hR.x13.keepM rfl (fun h hx => h (upd_false hx)), hR.x14.k, (fun h => absurd (hR.w15 (upd_back h (by decide)) 14 (by simp)) (by simp [hkw14])), (fun h => hR.i5 (upd_false h)), hR.w2.o, hR.w4.o, hR.w5.o, hR.w7.o, hR.w9.o, hR.w10.o, hR.w11.o, hR.w12.o, hR.w13.o, hR.w14.o, hR.w15.o⟩⟩
            refine EachOf.cons [1] rfl (by kernel_rfl) ?_ ?_
            · rintro L A W ⟨v, rfl, hR⟩ hi hw K hK
              have hk : L 14 = false := hR.w14.not (hR.w13.not (hR.w12.not (hR.w5.not (hR.w4.not hi rfl) rfl) rfl) rfl) rfl
              have e1 := hR.f1 (hw 1 (by simp))
              simp only [e1]
              clear e1
              have q0 := ((hR.st hk).cell (p := ⟨xb, 1, none⟩) LS1.out.2).trans LS1.out.1
              have hkw14 : L 14 = false := hR.w14.not (hR.w13.not (hR.w12.not (hR.w5.not (hR.w4.not hi rfl) rfl) rfl) rfl) rfl
              go_simp
              refine hK.out _ _ ?_
              exact ⟨(fun jz => if jz = 22 then .pointer (some ⟨xb, 1, none⟩) else if jz = 23 then .slice (some ⟨rb, ro, none⟩) (nr) (s.rc) else v jz), rfl, ⟨(fun h => hR.st (upd_false h)), hR.f0.k, (fun _ => rfl), (fun _ => rfl), hR.f3.k, hR.f4.k, hR.f5.k, hR.f6.k, hR.f7.k, hR.f8.k, hR.f9.k, hR.f10.k, hR.f11.k, hR.f12.k, hR.x13.keepM rfl (fun h hx => h (upd_false hx)), hR.x14.k, (fun h => absurd (hR.w15 (upd_back h (by decide)) 14 (by simp)) (by simp [hkw14])), (fun h => hR.i5 (upd_false h)), (fun _ j hj => upd_on (hw j hj)), hR.w4.o, hR.w5.o, hR.w7.o, hR.w9.o, hR.w10.o, hR.w11.o, hR.w12.o, hR.w13.o, hR.w14.o, hR.w15.o⟩⟩
            refine EachOf.cons [] rfl (by kernel_rfl) ?_ ?_
            · rintro L A W ⟨v, rfl, hR⟩ hi hw K hK
              have hk : L 14 = false := hR.w14.not (hR.w13.not (hR.w12.not (hR.w5.not (hR.w4.not hi rfl) rfl) rfl) rfl) rfl
              have hkw14 : L 14 = false := hR.w14.not (hR.w13.not (hR.w12.not (hR.w5.not (hR.w4.not hi rfl) rfl) rfl) rfl) rfl
              go_simp
              refine hK.out _ _ ?_
              exact ⟨(fun jz => if jz = 24 then .int .i64 (k : Int) else v jz), rfl, ⟨(fun h => hR.st (upd_false h)), hR.f0.k, hR.f1.k, hR.f2.k, (fun _ => rfl), hR.f4.k, hR.f5.k, hR.f6.k, hR.f7.k, hR.f8.k, hR.f9.k, hR.f10.k, hR.f11.k, hR.f12.k, hR.x13.keepM rfl (fun h hx => h (upd_false hx)), hR.x14.k, (fun h => absurd (hR.w15 (upd_back h (by decide)) 14 (by simp)) (by simp [hkw14])), (fun h => hR.i5 (upd_false h)), hR.w2.o, hR.w4.o, hR.w5.o, hR.w7.o, hR.w9.o, hR.w10.o, hR.w11.o, hR.w12.o, hR.w13.o, hR.w14.o, hR.w15.o⟩⟩
            refine EachOf.cons [2, 3] rfl (by kernel_rfl) ?_ ?_
            · rintro L A W ⟨v, rfl, hR⟩ hi hw K hK
              have hk : L 14 = false := hR.w14.not (hR.w13.not (hR.w12.not (hR.w5.not hi rfl) rfl) rfl) rfl
              have e2 := hR.f2 (hw 2 (by simp))
              have e3 := hR.f3 (hw 3 (by simp))
              simp only [e2, e3]
              clear e2 e3
              have hkw14 : L 14 = false := hR.w14.not (hR.w13.not (hR.w12.not (hR.w5.not hi rfl) rfl) rfl) rfl
              go_simp
              refine hK.out _ _ ?_
              exact ⟨(fun jz => if jz = 23 then .slice (some ⟨rb, ro, none⟩) (nr) (s.rc) else if jz = 24 then .int .i64 (k : Int) else if jz = 25 then .pointer (some ⟨rb, ro + k * 3, none⟩) else v jz), rfl, ⟨(fun h => hR.st (upd_false h)), hR.f0.k, hR.f1.k, (fun _ => rfl), (fun _ => rfl), (fun _ => rfl), hR.f5.k, hR.f6.k, hR.f7.k, hR.f8.k, hR.f9.k, hR.f10.k, hR.f11.k, hR.f12.k, hR.x13.keepM rfl (fun h hx => h (upd_false hx)), hR.x14.k, (fun h => absurd (hR.w15 (upd_back h (by decide)) 14 (by simp)) (by simp [hkw14])), (fun h => hR.i5 (upd_false h)), hR.w2.o, (fun _ j hj => upd_on (hw j hj)), hR.w5.o, hR.w7.o, hR.w9.o, hR.w10.o, hR.w11.o, hR.w12.o, hR.w13.o, hR.w14.o, hR.w15.o⟩⟩
            refine EachOf.cons [4] rfl (by kernel_rfl) ?_ ?_
            · rintro L A W ⟨v, rfl, hR⟩ hi hw K hK
              have hk : L 14 = false := hR.w14.not (hR.w13.not (hR.w12.not hi rfl) rfl) rfl
              have e4 := hR.f4 (hw 4 (by simp))
              simp only [e4]
              clear e4
              have q0 := ((hR.st hk).cell (p := ⟨rb, ro + k * 3, none⟩) LR0.out.2).trans LR0.out.1
              have q1 := ((hR.st hk).cell (p := ⟨rb, ro + k * 3 + 1, none⟩) LR1.out.2).trans LR1.out.1
              have q2 := ((hR.st hk).cell (p := ⟨rb, ro + k * 3 + 2, none⟩) LR2.out.2).trans LR2.out.1
              have hkw14 : L 14 = false := hR.w14.not (hR.w13.not (hR.w12.not hi rfl) rfl) rfl
              go_simp
              refine hK.out _ _ ?_
              exact ⟨(fun jz => if jz = 25 then .pointer (some ⟨rb, ro + k * 3, none⟩) else if jz = 26 then .agg #[.string (s.R k).name, .slice (s.R k).ha (s.R k).n (s.R k).hc, .bool (s.R k).hauled] else v jz), rfl, ⟨(fun h => hR.st (upd_false h)), hR.f0.k, hR.f1.k, hR.f2.k, hR.f3.k, (fun _ => rfl), (fun _ => rfl), hR.f6.k, hR.f7.k, hR.f8.k, hR.f9.k, hR.f10.k, hR.f11.k, hR.f12.k, hR.x13.keepM rfl (fun h hx => h (upd_false hx)), hR.x14.k, (fun h => absurd (hR.w15 (upd_back h (by decide)) 14 (by simp)) (by simp [hkw14])), (fun h => hR.i5 (upd_false h)), hR.w2.o, hR.w4.o, (fun _ j hj => upd_on (hw j hj)), hR.w7.o, hR.w9.o, hR.w10.o, hR.w11.o, hR.w12.o, hR.w13.o, hR.w14.o, hR.w15.o⟩⟩
            refine EachOf.cons [] rfl (by kernel_rfl) ?_ ?_
            · rintro L A W ⟨v, rfl, hR⟩ hi hw K hK
              have hk : L 14 = false := hR.w14.not (hR.w13.not (hR.w12.not (hR.w11.not (hR.w10.not (hR.w9.not (hR.w7.not hi rfl) rfl) rfl) rfl) rfl) rfl) rfl
              have hkw14 : L 14 = false := hR.w14.not (hR.w13.not (hR.w12.not (hR.w11.not (hR.w10.not (hR.w9.not (hR.w7.not hi rfl) rfl) rfl) rfl) rfl) rfl) rfl
              go_simp
              refine hK.out _ _ ?_
              exact ⟨(fun jz => if jz = 27 then .pointer (some ⟨xb, 0, none⟩) else v jz), rfl, ⟨(fun h => hR.st (upd_false h)), hR.f0.k, hR.f1.k, hR.f2.k, hR.f3.k, hR.f4.k, hR.f5.k, (fun _ => rfl), hR.f7.k, hR.f8.k, hR.f9.k, hR.f10.k, hR.f11.k, hR.f12.k, hR.x13.keepM rfl (fun h hx => h (upd_false hx)), hR.x14.k, (fun h => absurd (hR.w15 (upd_back h (by decide)) 14 (by simp)) (by simp [hkw14])), (fun h => hR.i5 (upd_false h)), hR.w2.o, hR.w4.o, hR.w5.o, hR.w7.o, hR.w9.o, hR.w10.o, hR.w11.o, hR.w12.o, hR.w13.o, hR.w14.o, hR.w15.o⟩⟩
            refine EachOf.cons [6] rfl (by kernel_rfl) ?_ ?_
            · rintro L A W ⟨v, rfl, hR⟩ hi hw K hK
              have hk : L 14 = false := hR.w14.not (hR.w13.not (hR.w12.not (hR.w11.not (hR.w10.not (hR.w9.not hi rfl) rfl) rfl) rfl) rfl) rfl
              have e6 := hR.f6 (hw 6 (by simp))
              simp only [e6]
              clear e6
              have q0 := ((hR.st hk).cell (p := ⟨xb, 0, none⟩) LS0.out.2).trans LS0.out.1
              have hkw14 : L 14 = false := hR.w14.not (hR.w13.not (hR.w12.not (hR.w11.not (hR.w10.not (hR.w9.not hi rfl) rfl) rfl) rfl) rfl) rfl
              go_simp
              refine hK.out _ _ ?_
              exact ⟨(fun jz => if jz = 27 then .pointer (some ⟨xb, 0, none⟩) else if jz = 28 then .slice (some ⟨bb, bo, none⟩) (nb) (s.bc) else v jz), rfl, ⟨(fun h => hR.st (upd_false h)), hR.f0.k, hR.f1.k, hR.f2.k, hR.f3.k, hR.f4.k, hR.f5.k, (fun _ => rfl), (fun _ => rfl), hR.f8.k, hR.f9.k, hR.f10.k, hR.f11.k, hR.f12.k, hR.x13.keepM rfl (fun h hx => h (upd_false hx)), hR.x14.k, (fun h => absurd (hR.w15 (upd_back h (by decide)) 14 (by simp)) (by simp [hkw14])), (fun h => hR.i5 (upd_false h)), hR.w2.o, hR.w4.o, hR.w5.o, (fun _ j hj => upd_on (hw j hj)), hR.w9.o, hR.w10.o, hR.w11.o, hR.w12.o, hR.w13.o, hR.w14.o, hR.w15.o⟩⟩
            refine EachOf.cons [] rfl (by kernel_rfl) ?_ ?_
            · rintro L A W ⟨v, rfl, hR⟩ hi hw K hK
              have hk : L 14 = false := hR.w14.not (hR.w13.not (hR.w12.not (hR.w11.not (hR.w10.not (hR.w9.not hi rfl) rfl) rfl) rfl) rfl) rfl
              have hkw14 : L 14 = false := hR.w14.not (hR.w13.not (hR.w12.not (hR.w11.not (hR.w10.not (hR.w9.not hi rfl) rfl) rfl) rfl) rfl) rfl
              go_simp
              refine hK.out _ _ ?_
              exact ⟨(fun jz => if jz = 29 then .int .i64 (i : Int) else v jz), rfl, ⟨(fun h => hR.st (upd_false h)), hR.f0.k, hR.f1.k, hR.f2.k, hR.f3.k, hR.f4.k, hR.f5.k, hR.f6.k, hR.f7.k, (fun _ => rfl), hR.f9.k, hR.f10.k, hR.f11.k, hR.f12.k, hR.x13.keepM rfl (fun h hx => h (upd_false hx)), hR.x14.k, (fun h => absurd (hR.w15 (upd_back h (by decide)) 14 (by simp)) (by simp [hkw14])), (fun h => hR.i5 (upd_false h)), hR.w2.o, hR.w4.o, hR.w5.o, hR.w7.o, hR.w9.o, hR.w10.o, hR.w11.o, hR.w12.o, hR.w13.o, hR.w14.o, hR.w15.o⟩⟩
            refine EachOf.cons [7, 8] rfl (by kernel_rfl) ?_ ?_
            · rintro L A W ⟨v, rfl, hR⟩ hi hw K hK
              have hk : L 14 = false := hR.w14.not (hR.w13.not (hR.w12.not (hR.w11.not (hR.w10.not hi rfl) rfl) rfl) rfl) rfl
              have e7 := hR.f7 (hw 7 (by simp))
              have e8 := hR.f8 (hw 8 (by simp))
              simp only [e7, e8]
              clear e7 e8
              have hkw14 : L 14 = false := hR.w14.not (hR.w13.not (hR.w12.not (hR.w11.not (hR.w10.not hi rfl) rfl) rfl) rfl) rfl
              go_simp
              refine hK.out _ _ ?_
              exact ⟨(fun jz => if jz = 28 then .slice (some ⟨bb, bo, none⟩) (nb) (s.bc) else if jz = 29 then .int .i64 (i : Int) else if jz = 30 then .pointer (some ⟨bb, bo + i * 2, none⟩) else v jz), rfl, ⟨(fun h => hR.st (upd_false h)), hR.f0.k, hR.f1.k, hR.f2.k, hR.f3.k, hR.f4.k, hR.f5.k, hR.f6.k, (fun _ => rfl), (fun _ => rfl), (fun _ => rfl), hR.f10.k, hR.f11.k, hR.f12.k, hR.x13.keepM rfl (fun h hx => h (upd_false hx)), hR.x14.k, (fun h => absurd (hR.w15 (upd_back h (by decide)) 14 (by simp)) (by simp [hkw14])), (fun h => hR.i5 (upd_false h)), hR.w2.o, hR.w4.o, hR.w5.o, hR.w7.o, (fun _ j hj => upd_on (hw j hj)), hR.w10.o, hR.w11.o, hR.w12.o, hR.w13.o, hR.w14.o, hR.w15.o⟩⟩
            refine EachOf.cons [9] rfl (by kernel_rfl) ?_ ?_
            · rintro L A W ⟨v, rfl, hR⟩ hi hw K hK
              have hk : L 14 = false := hR.w14.not (hR.w13.not (hR.w12.not (hR.w11.not hi rfl) rfl) rfl) rfl
              have e9 := hR.f9 (hw 9 (by simp))
              simp only [e9]
              clear e9
              have hkw14 : L 14 = false := hR.w14.not (hR.w13.not (hR.w12.not (hR.w11.not hi rfl) rfl) rfl) rfl
              go_simp
              refine hK.out _ _ ?_
              exact ⟨(fun jz => if jz = 30 then .pointer (some ⟨bb, bo + i * 2, none⟩) else if jz = 31 then .pointer (some ⟨bb, bo + i * 2, none⟩) else v jz), rfl, ⟨(fun h => hR.st (upd_false h)), hR.f0.k, hR.f1.k, hR.f2.k, hR.f3.k, hR.f4.k, hR.f5.k, hR.f6.k, hR.f7.k, hR.f8.k, (fun _ => rfl), (fun _ => rfl), hR.f11.k, hR.f12.k, hR.x13.keepM rfl (fun h hx => h (upd_false hx)), hR.x14.k, (fun h => absurd (hR.w15 (upd_back h (by decide)) 14 (by simp)) (by simp [hkw14])), (fun h => hR.i5 (upd_false h)), hR.w2.o, hR.w4.o, hR.w5.o, hR.w7.o, hR.w9.o, (fun _ j hj => upd_on (hw j hj)), hR.w11.o, hR.w12.o, hR.w13.o, hR.w14.o, hR.w15.o⟩⟩
            refine EachOf.cons [10] rfl (by kernel_rfl) ?_ ?_
            · rintro L A W ⟨v, rfl, hR⟩ hi hw K hK
              have hk : L 14 = false := hR.w14.not (hR.w13.not (hR.w12.not hi rfl) rfl) rfl
              have e10 := hR.f10 (hw 10 (by simp))
              simp only [e10]
              clear e10
              have q0 := ((hR.st hk).cell (p := ⟨bb, bo + i * 2, none⟩) LN.out.2).trans LN.out.1
              have hkw14 : L 14 = false := hR.w14.not (hR.w13.not (hR.w12.not hi rfl) rfl) rfl
              go_simp
              refine hK.out _ _ ?_
              exact ⟨(fun jz => if jz = 31 then .pointer (some ⟨bb, bo + i * 2, none⟩) else if jz = 32 then .string (s.bn i) else v jz), rfl, ⟨(fun h => hR.st (upd_false h)), hR.f0.k, hR.f1.k, hR.f2.k, hR.f3.k, hR.f4.k, hR.f5.k, hR.f6.k, hR.f7.k, hR.f8.k, hR.f9.k, (fun _ => rfl), (fun _ => rfl), hR.f12.k, hR.x13.keepM rfl (fun h hx => h (upd_false hx)), hR.x14.k, (fun h => absurd (hR.w15 (upd_back h (by decide)) 14 (by simp)) (by simp [hkw14])), (fun h => hR.i5 (upd_false h)), hR.w2.o, hR.w4.o, hR.w5.o, hR.w7.o, hR.w9.o, hR.w10.o, (fun _ j hj => upd_on (hw j hj)), hR.w12.o, hR.w13.o, hR.w14.o, hR.w15.o⟩⟩
            refine EachOf.cons [5, 11] rfl (by kernel_rfl) ?_ ?_
            · rintro L A W ⟨v, rfl, hR⟩ hi hw K hK
              have hk : L 14 = false := hR.w14.not (hR.w13.not hi rfl) rfl
              have hk13 : L 13 = false := hR.w13.not hi rfl
              have e5 := hR.f5 (hw 5 (by simp))
              have e11 := hR.f11 (hw 11 (by simp))
              simp only [e5, e11]
              clear e5 e11
              have hkw14 : L 14 = false := hR.w14.not (hR.w13.not hi rfl) rfl
              go_simp
              go_at_call 77
              (with_reducible refine ((Lib.hid (CPk.out W (hR.st hk))).out.mono ?_))
              rintro e w2 ⟨rfl, hb⟩
              go_simp
              refine hK.out _ _ ?_
              exact ⟨(fun jz => if jz = 26 then .agg #[.string (s.R k).name, .slice (s.R k).ha (s.R k).n (s.R k).hc, .bool (s.R k).hauled] else if jz = 32 then .string (s.bn i) else if jz = 33 then .int .i64 (E i k) else v jz), rfl, ⟨(fun _ => below_on (hR.st hk) hb), hR.f0.k, hR.f1.k, hR.f2.k, hR.f3.k, hR.f4.k, (fun _ => rfl), hR.f6.k, hR.f7.k, hR.f8.k, hR.f9.k, hR.f10.k, (fun _ => rfl), (fun _ => rfl), (fun h => absurd (upd_back h rfl) (by simp [hk13])), (fun h => absurd (upd_back h rfl) (by simp [hk])), (fun h => absurd (hR.w15 (upd_back h (by decide)) 14 (by simp)) (by simp [hkw14])), (fun h => hR.i5 (upd_false h)), hR.w2.o, hR.w4.o, hR.w5.o, hR.w7.o, hR.w9.o, hR.w10.o, hR.w11.o, (fun _ j hj => upd_on (hw j hj)), hR.w13.o, hR.w14.o, hR.w15.o⟩⟩
            refine EachOf.cons [12] rfl (by kernel_rfl) ?_ ?_
            · rintro L A W ⟨v, rfl, hR⟩ hi hw K hK
              have hk : L 14 = false := hR.w14.not hi rfl
              have e12 := hR.f12 (hw 12 (by simp))
              simp only [e12]
              clear e12
              have hkw14 : L 14 = false := hR.w14.not hi rfl
              have hb : Below W.heap.size W (W.alloc _) := (Below.refl _ _).alloc (Nat.le_refl _) (Obj.cells #[.int .i64 (E i k)] 3)
              go_simp
              refine hK.out _ _ ?_
              exact ⟨(fun jz => if jz = 33 then .int .i64 (E i k) else if jz = 34 then .slice (some ⟨W.heap.size, 0, none⟩) 1 1 else v jz), rfl, ⟨(fun _ => below_on (hR.st hk) hb), hR.f0.k, hR.f1.k, hR.f2.k, hR.f3.k, hR.f4.k, hR.f5.k, hR.f6.k, hR.f7.k, hR.f8.k, hR.f9.k, hR.f10.k, hR.f11.k, (fun _ => rfl), (fun _ _ => ⟨W.heap.size, rfl, SlR.new _ _ _⟩), (fun h => absurd (upd_back h rfl) (by simp [hk])), (fun h => absurd (hR.w15 (upd_back h (by decide)) 14 (by simp)) (by simp [hkw14])), (fun h => hR.i5 (upd_false h)), hR.w2.o, hR.w4.o, hR.w5.o, hR.w7.o, hR.w9.o, hR.w10.o, hR.w11.o, hR.w12.o, (fun _ j hj => upd_on (hw j hj)), hR.w14.o, hR.w15.o⟩⟩
            refine EachOf.cons [0, 13] rfl (by kernel_rfl) ?_ ?_
            · rintro L A W ⟨v, rfl, hR⟩ hi hw K hK
              have hk : L 14 = false := hi
              have e0 := hR.f0 (hw 0 (by simp))
              simp only [e0]
              clear e0
              obtain ⟨B13, e13, hB13⟩ := hR.x13 (hw 13 (by simp)) hk
              simp only [e13]
              have hkw14 : L 14 = false := hi
              have hb := hR.st hi
              have ho := own_only LO.out (Only.of_below (S := fun _ => False) hb) (fun _ _ q => q)
              simp only [List.getElem_toArray, List.getElem_cons_succ, List.getElem_cons_zero]
              rw [if_pos (show Region.wanted _ _ = true by rfl)]
              refine wp_append_lies W _ _ 43 (by rfl) B0 3 i0 (.int .i64 0) 1 8 Tryd.underlying43 HI.out.1 HI.out.2.1 HI.out.2.2.1 HI.out.2.2.2 rfl (by decide) (.slice qa k qc) k _ (by rfl) ho ⟨B13, 0, none⟩ 1 1 [.int .i64 (E i k)] (by rfl) rfl (SlR.news hB13) (by intro u hu; simp at hu; subst hu; rfl) (by omega) (by unfold maxLen; omega) (by omega) (Nat.le_trans LB.out hb.size) _ rfl ?_
              intro g cap w1 hown hgrow hat hlt
              refine hK.out _ _ ?_
              exact ⟨(fun jz => if jz = 21 then .slice qa k qc else if jz = 34 then .slice (some ⟨B13, 0, none⟩) 1 1 else if jz = 35 then .slice (some ⟨g, 0, none⟩) (k + 1) cap else v jz), rfl, ⟨(fun h => by simp [upd_self] at h), (fun _ => rfl), hR.f1.k, hR.f2.k, hR.f3.k, hR.f4.k, hR.f5.k, hR.f6.k, hR.f7.k, hR.f8.k, hR.f9.k, hR.f10.k, hR.f11.k, hR.f12.k, (fun _ h => by simp [upd_self] at h), (fun _ => AppW.make hb hgrow hown hat hlt), (fun h => absurd (hR.w15 (upd_back h (by decide)) 14 (by simp)) (by simp [hkw14])), (fun h => hR.i5 (upd_false h)), hR.w2.o, hR.w4.o, hR.w5.o, hR.w7.o, hR.w9.o, hR.w10.o, hR.w11.o, hR.w12.o, hR.w13.o, (fun _ j hj => upd_on (hw j hj)), hR.w15.o⟩⟩
            refine EachOf.cons [14] rfl (by kernel_rfl) ?_ ?_
            · rintro L A W ⟨v, rfl, hR⟩ hi hw K hK
              go_simp
              refine hK.out _ _ ?_
              exact ⟨(fun jz => if jz = 5 then v 35 else v jz), rfl, ⟨(fun h => hR.st (upd_false h)), hR.f0.k, hR.f1.k, hR.f2.k, hR.f3.k, hR.f4.k, hR.f5.k, hR.f6.k, hR.f7.k, hR.f8.k, hR.f9.k, hR.f10.k, hR.f11.k, hR.f12.k, hR.x13.keepM rfl (fun h hx => h (upd_false hx)), hR.x14.k, (fun _ => rfl), (fun h => by simp [upd_self] at h), hR.w2.o, hR.w4.o, hR.w5.o, hR.w7.o, hR.w9.o, hR.w10.o, hR.w11.o, hR.w12.o, hR.w13.o, hR.w14.o, (fun _ j hj => upd_on (hw j hj))⟩⟩
            exact EachOf.nil
          rintro L A W3 ⟨vs, rfl, hR⟩ hL
          have hA := hR.x14 (hL 14 (by simp))
          have e5 := hR.f15 (hL 15 (by simp))
          obtain ⟨g4, cap4, hz4, hcase, hl4⟩ := hA.form
          rw [hz4] at hA e5
          simp only [e5]
          have S3 : Hid (Below W1.heap.size W1 W3 ∧ StI W3 W1.heap.size (.slice (some ⟨g4, 0, none⟩) (k + 1) cap4) (k + 1) (E i)) := by
            refine ⟨S2.out.1.trans (hA.only.below S2.out.1.size (fun q hq => (S2.out.2.lt q hq).1)), ?_⟩
            unfold StI
            rw [intsD_succ, HBZ.out]
            exact hA.own
          clear hA e5 hz4 hcase hl4 hR hL LS0 LS1 LN LR0 LR1 LR2 LO LB CPk HBZ S2 BW
          go_wp2_with fail
          go_roundg (nr - (k + 1))
          case measure => omega
          case rel => exact ⟨k + 1, rfl, rfl, by omega, S3⟩
        · have lk : ¬ (k : Int) < (nr : Int) := by omega
          have e : nr = k := by omega
          subst e
          obtain ⟨g, cp, hv, hrow⟩ := own_nrow S2.out.2 (by omega)
          injection hv with e1 _ e3
          subst e1
          subst e3
          have BA : Hid (Below W2.heap.size W2 (W2.alloc (Obj.cells #[Value.slice (some ⟨g, 0, none⟩) nr qc] 43))) := (Below.refl _ _).alloc (Nat.le_refl _) _
          have O3 := Lib.hid (S.out.2.on (below_on S2.out.1 BA.out))
          have A3 := Lib.hid (show (W2.alloc (Obj.cells #[Value.slice (some ⟨g, 0, none⟩) nr qc] 43)).cell? ⟨W2.heap.size, 0, none⟩ = some (.slice (some ⟨g, 0, none⟩) nr qc) from by simp)
          have L3 : Hid (w1.heap.size ≤ (W2.alloc (Obj.cells #[Value.slice (some ⟨g, 0, none⟩) nr qc] 43)).heap.size) := Nat.le_trans S.out.1.size (Nat.le_trans S2.out.1.size BA.out.size)
          have HG : Hid (g < (W2.alloc (Obj.cells #[Value.slice (some ⟨g, 0, none⟩) nr qc] 43)).heap.size ∧ (∀ q, (Value.slice pa i pc).ownBlock = some q → g ≠ q) ∧ ∀ x, x < nr → (W2.alloc (Obj.cells #[Value.slice (some ⟨g, 0, none⟩) nr qc] 43)).cell? ⟨g, x, none⟩ = some (.int .i64 (E i x))) :=
            ⟨Nat.lt_of_lt_of_le hrow.hb BA.out.size, fun q hq => by have := (S.out.2.own.lt q hq).2; have := hrow.lo; omega, fun x hx => (BA.out.cell (p := ⟨g, x, none⟩) hrow.hb).trans (hrow.cell x hx)⟩
          have BT := Lib.hid (below_on S.out.1 (below_on S2.out.1 BA.out))
          clear hrow S2 L0 L1
          go_wp2_with (at_builtin; refine wpList_app_row _ rfl rfl _ _ rfl w1.heap.size i nr _ G C E rfl O3.out ⟨W2.heap.size, 0, none⟩ 1 rfl g qc A3.out HG.out.1 HG.out.2.1 HG.out.2.2 (by omega) L3.out ?_; intro g3 cap3 W3 hown hgrow
                       have S3 : Hid (Below w1.heap.size w1 W3 ∧ MtO W3 w1.heap.size (.slice (some ⟨g3, 0, none⟩) (i + 1) cap3) (i + 1) nr (fun l => if l = i then g else G l) (fun l => if l = i then qc else C l) E) := ⟨below_grown (w := w1) BT.out O3.out.own hgrow, hown⟩
                       clear hown hgrow O3 A3 L3 HG BT BA)
          go_roundg (nb - (i + 1))
          case measure => omega
          case rel => exact ⟨i + 1, rfl, rfl, by omega, _, _, S3⟩
    · have li : ¬ (i : Int) < (nb : Int) := by omega
      have e : nb = i := by omega
      subst e
      have R0 : Hid (RwL W1 pa nb nr E ∧ Below w.heap.size w W1) := ⟨S.out.2.rwl, below_on HB.out S.out.1⟩
      clear S
      go_wp2_with fail
      go_ret
      exact ⟨pa, ⟨pc, rfl⟩, R0.out⟩
end Go.Proofs.YtcghjjfpjiacfaaDoor
