/- Layer 10: lists of rows (taken from layer 4's texts); pulls. -/
import Derived.Test.YtcghjjfpjiacfaaDoorKV6
namespace Go.Proofs.YtcghjjfpjiacfaaDoor
open Go.ChangeShapes Go.WideShapes Go.ChangeAt Go.RowKit Go.Joins Go.Deep Go.Shelf
set_option linter.unusedVariables false

/-- A list of rows of integers, each in a block of its own. -/
structure Grid (B0 : Nat) (W : World) (b R n : Nat) (G C : Nat → Nat) (E : Nat → Nat → Int) : Prop where
  lb : B0 ≤ b
  hb : b < W.heap.size
  top : ∀ i, i < R → W.cell? ⟨b, i, none⟩ = some (.slice (some ⟨G i, 0, none⟩) n (C i))
  tfz : ∀ i, i < R → W.frozen? ⟨b, i, none⟩ = false
  row : ∀ i, i < R → B0 ≤ G i ∧ G i < W.heap.size ∧ G i ≠ b
  cap : ∀ i, i < R → n ≤ C i
  inj : ∀ i k, i < R → k < R → G i = G k → i = k
  cell : ∀ i j, i < R → j < n → W.cell? ⟨G i, j, none⟩ = some (.int .i64 (E i j))
  fz : ∀ i j, i < R → j < n → W.frozen? ⟨G i, j, none⟩ = false
theorem Grid.on {B0 : Nat} {W W2 : World} {b R n : Nat} {G C : Nat → Nat} {E : Nat → Nat → Int} (h : Grid B0 W b R n G C E) (hb : Below W.heap.size W W2) : Grid B0 W2 b R n G C E where
  lb := h.lb
  hb := Nat.lt_of_lt_of_le h.hb hb.size
  top i hi := (hb.cell (p := ⟨b, i, none⟩) h.hb).trans (h.top i hi)
  tfz i hi := (hb.frozen (p := ⟨b, i, none⟩) h.hb).trans (h.tfz i hi)
  row i hi := ⟨(h.row i hi).1, Nat.lt_of_lt_of_le (h.row i hi).2.1 hb.size, (h.row i hi).2.2⟩
  cap := h.cap
  inj := h.inj
  cell i j hi hj := (hb.cell (p := ⟨G i, j, none⟩) (h.row i hi).2.1).trans (h.cell i j hi hj)
  fz i j hi hj := (hb.frozen (p := ⟨G i, j, none⟩) (h.row i hi).2.1).trans (h.fz i j hi hj)
theorem Grid.only {S : Nat → Prop} {B0 : Nat} {W W2 : World} {b R n : Nat} {G C : Nat → Nat} {E : Nat → Nat → Int} (h : Grid B0 W b R n G C E) (hb : Only S W W2) (nb : ¬ S b) (nr : ∀ i, i < R → ¬ S (G i)) : Grid B0 W2 b R n G C E where
  lb := h.lb
  hb := Nat.lt_of_lt_of_le h.hb hb.size
  top i hi := (hb.cell (p := ⟨b, i, none⟩) h.hb nb).trans (h.top i hi)
  tfz i hi := (hb.frozen (p := ⟨b, i, none⟩) h.hb nb).trans (h.tfz i hi)
  row i hi := ⟨(h.row i hi).1, Nat.lt_of_lt_of_le (h.row i hi).2.1 hb.size, (h.row i hi).2.2⟩
  cap := h.cap
  inj := h.inj
  cell i j hi hj := (hb.cell (p := ⟨G i, j, none⟩) (h.row i hi).2.1 (nr i hi)).trans (h.cell i j hi hj)
  fz i j hi hj := (hb.frozen (p := ⟨G i, j, none⟩) (h.row i hi).2.1 (nr i hi)).trans (h.fz i j hi hj)
def setE (E : Nat → Nat → Int) (i0 j0 : Nat) (v : Int) : Nat → Nat → Int := fun i j => if i = i0 ∧ j = j0 then v else E i j
theorem Grid.set {B0 : Nat} {W : World} {b R n : Nat} {G C : Nat → Nat} {E : Nat → Nat → Int} (h : Grid B0 W b R n G C E) (i0 j0 : Nat) (hi0 : i0 < R) (hj0 : j0 < n) (v : Int) : Grid B0 (W.setCell ⟨G i0, j0, none⟩ (.int .i64 v)) b R n G C (setE E i0 j0 v) where
  lb := h.lb
  hb := by simpa using h.hb
  top i hi := by rw [World.cell?_setCell_far _ _ _ _ (h.row i0 hi0).2.2]; exact h.top i hi
  tfz i hi := by simpa using h.tfz i hi
  row i hi := by simpa using h.row i hi
  cap := h.cap
  inj := h.inj
  cell i j hi hj := by
    unfold setE
    by_cases e : i = i0 ∧ j = j0
    · obtain ⟨rfl, rfl⟩ := e
      rw [if_pos ⟨rfl, rfl⟩]
      exact World.cell?_setCell_same' _ _ _ (by rw [h.cell i j hi hj]; rfl)
    · rw [if_neg e]
      by_cases e2 : i = i0
      · subst e2
        rw [World.cell?_setCell_other _ _ _ _ (adr_ne (b := G i) (i := j0) (j := j) (fun q => e ⟨rfl, q.symm⟩))]
        exact h.cell i j hi hj
      · rw [World.cell?_setCell_far _ _ _ _ (fun k => e2 (h.inj i0 i hi0 hi k).symm)]
        exact h.cell i j hi hj
  fz i j hi hj := by simpa using h.fz i j hi hj
theorem Grid.congr {B0 : Nat} {W : World} {b R n : Nat} {G C : Nat → Nat} {E F : Nat → Nat → Int} (h : Grid B0 W b R n G C E) (e : ∀ i j, i < R → j < n → F i j = E i j) : Grid B0 W b R n G C F where
  lb := h.lb
  hb := h.hb
  top := h.top
  tfz := h.tfz
  row := h.row
  cap := h.cap
  inj := h.inj
  cell i j hi hj := by rw [e i j hi hj]; exact h.cell i j hi hj
  fz := h.fz

theorem Grid.low {B0 B : Nat} {W : World} {b R n : Nat} {G C : Nat → Nat} {E : Nat → Nat → Int} (h : Grid B0 W b R n G C E) (hB : B ≤ B0) : Grid B W b R n G C E := ⟨Nat.le_trans hB h.lb, h.hb, h.top, h.tfz, fun i hi => ⟨Nat.le_trans hB (h.row i hi).1, (h.row i hi).2⟩, h.cap, h.inj, h.cell, h.fz⟩
/-- A list of rows of zeros of which the first i are there. -/
structure GrP (B0 : Nat) (W : World) (b R n i : Nat) (G : Nat → Nat) : Prop where
  lb : B0 ≤ b
  hb : b < W.heap.size
  top : ∀ l, l < i → W.cell? ⟨b, l, none⟩ = some (.slice (some ⟨G l, 0, none⟩) n n)
  rest : ∀ l, i ≤ l → l < R → W.cell? ⟨b, l, none⟩ = some (.slice none 0 0)
  tfz : ∀ l, l < R → W.frozen? ⟨b, l, none⟩ = false
  row : ∀ l, l < i → B0 ≤ G l ∧ G l < W.heap.size ∧ G l ≠ b
  inj : ∀ l k, l < i → k < i → G l = G k → l = k
  cell : ∀ l j, l < i → j < n → W.cell? ⟨G l, j, none⟩ = some (.int .i64 0)
  fz : ∀ l j, l < i → j < n → W.frozen? ⟨G l, j, none⟩ = false
theorem GrP.on {B0 : Nat} {W W2 : World} {b R n i : Nat} {G : Nat → Nat} (h : GrP B0 W b R n i G) (hb : Below W.heap.size W W2) : GrP B0 W2 b R n i G where
  lb := h.lb
  hb := Nat.lt_of_lt_of_le h.hb hb.size
  top l hl := (hb.cell (p := ⟨b, l, none⟩) h.hb).trans (h.top l hl)
  rest l hl hr := (hb.cell (p := ⟨b, l, none⟩) h.hb).trans (h.rest l hl hr)
  tfz l hl := (hb.frozen (p := ⟨b, l, none⟩) h.hb).trans (h.tfz l hl)
  row l hl := ⟨(h.row l hl).1, Nat.lt_of_lt_of_le (h.row l hl).2.1 hb.size, (h.row l hl).2.2⟩
  inj := h.inj
  cell l j hl hj := (hb.cell (p := ⟨G l, j, none⟩) (h.row l hl).2.1).trans (h.cell l j hl hj)
  fz l j hl hj := (hb.frozen (p := ⟨G l, j, none⟩) (h.row l hl).2.1).trans (h.fz l j hl hj)
theorem GrP.push {B0 : Nat} {W : World} {b R n i : Nat} {G : Nat → Nat} (h : GrP B0 W b R n i G) (g lo : Nat) (hi : i < R) (hn : NRow lo n W g n (fun _ => 0)) (hlo : B0 ≤ g) (hgb : g ≠ b) (hd : ∀ l, l < i → G l ≠ g) :
    GrP B0 (W.setCell ⟨b, i, none⟩ (.slice (some ⟨g, 0, none⟩) n n)) b R n (i + 1) (fun l => if l = i then g else G l) where
  lb := h.lb
  hb := by simpa using h.hb
  top l hl := by
    by_cases e : l = i
    · subst e
      rw [if_pos rfl]
      exact World.cell?_setCell_same' _ _ _ (by rw [h.rest l (Nat.le_refl _) hi]; rfl)
    · rw [if_neg e, World.cell?_setCell_other _ _ _ _ (adr_ne (fun q => e q.symm))]
      exact h.top l (by omega)
  rest l hl hr := by
    rw [World.cell?_setCell_other _ _ _ _ (adr_ne (by omega))]
    exact h.rest l (by omega) hr
  tfz l hl := by simpa using h.tfz l hl
  row l hl := by
    by_cases e : l = i
    · subst e
      simp only [if_pos]
      exact ⟨hlo, by simpa using hn.hb, hgb⟩
    · simp only [if_neg e]
      have := h.row l (by omega)
      exact ⟨this.1, by simpa using this.2.1, this.2.2⟩
  inj l k hl hk hq := by
    by_cases e : l = i <;> by_cases e2 : k = i
    · rw [e, e2]
    · rw [if_pos e, if_neg e2] at hq
      exact absurd hq.symm (hd k (by omega))
    · rw [if_neg e, if_pos e2] at hq
      exact absurd hq (hd l (by omega))
    · rw [if_neg e, if_neg e2] at hq
      exact h.inj l k (by omega) (by omega) hq
  cell l j hl hj := by
    by_cases e : l = i
    · subst e
      rw [if_pos rfl, World.cell?_setCell_far _ _ _ _ (fun q => hgb q.symm)]
      exact hn.cell j hj
    · rw [if_neg e, World.cell?_setCell_far _ _ _ _ (fun q => (h.row l (by omega)).2.2 q.symm)]
      exact h.cell l j (by omega) hj
  fz l j hl hj := by
    by_cases e : l = i
    · subst e
      rw [if_pos rfl]
      simpa using hn.fz j hj
    · rw [if_neg e]
      simpa using h.fz l j (by omega) hj
theorem GrP.grid {B0 : Nat} {W : World} {b R n : Nat} {G : Nat → Nat} (h : GrP B0 W b R n R G) : Grid B0 W b R n G (fun _ => n) (fun _ _ => 0) where
  lb := h.lb
  hb := h.hb
  top := h.top
  tfz := h.tfz
  row := h.row
  cap _ _ := Nat.le_refl _
  inj := h.inj
  cell := h.cell
  fz := h.fz

/-- The sum of the pulls at a block, over the first holds of a rope. -/
def pul (r : Rop) (x : ByteArray) : Nat → Int
  | 0 => 0
  | i + 1 => pul r x i + (if (r.hs i).blk = x then (r.hs i).pulls else 0)
/-- The matrix while rope k's first i holds are done. -/
def mxE (s : Sys) (k i : Nat) : Nat → Nat → Int := fun r c => if c < k then pul (s.R c) (s.bn r) (s.R c).n else if c = k then pul (s.R k) (s.bn r) i else 0
def mtx (s : Sys) : Nat → Nat → Int := fun r c => pul (s.R c) (s.bn r) (s.R c).n
theorem hld_pulls {k : Bool} {h : Hld} {e : Bool} (hh : hldB k h e = true) : -2 ≤ h.pulls ∧ h.pulls ≤ 2 := by
  unfold hldB plB pulE pulS at hh
  simp only [Bool.and_eq_true] at hh
  have h1 := hh.1
  split at h1
  · have := eq_of_beq h1; omega
  · cases e <;> simp at h1 <;> omega
theorem pul_bd {kn : ByteArray → Bool} {r : Rop} (hr : RopOk kn r) (x : ByteArray) : ∀ i, i ≤ r.n → -(2 * (i : Int)) ≤ pul r x i ∧ pul r x i ≤ 2 * (i : Int)
  | 0, _ => by unfold pul; omega
  | i + 1, h => by
    have ih := pul_bd hr x i (by omega)
    have := hld_pulls (hr.hs i (by omega))
    unfold pul
    split <;> omega
theorem SysOk.bdis {s : Sys} (h : SysOk s) : ∀ k, k < s.nb → ∀ j, j < k → s.bn j ≠ s.bn k := fun k hk j hj => by
  have := h.dis k (by omega) j hj
  rwa [sys_nm_b s hk, sys_nm_b s (by omega)] at this
theorem mxE_0 (s : Sys) : ∀ r c, mxE s 0 0 r c = 0 := fun r c => by
  unfold mxE
  split
  · omega
  · split <;> rfl
theorem mxE_next (s : Sys) (k : Nat) : ∀ r c, mxE s (k + 1) 0 r c = mxE s k (s.R k).n r c := fun r c => by
  unfold mxE
  by_cases h : c < k
  · rw [if_pos (by omega), if_pos h]
  · by_cases h2 : c = k
    · subst h2
      rw [if_pos (by omega), if_neg (by omega), if_pos rfl]
    · rw [if_neg (by omega), if_neg h, if_neg h2]
      split <;> rfl
theorem mxE_end (s : Sys) : ∀ r c, c < s.nr → mxE s s.nr 0 r c = mtx s r c := fun r c hc => by
  unfold mxE mtx
  rw [if_pos hc]
theorem mxE_miss {s : Sys} {k i : Nat} (hn : ∀ r, r < s.nb → s.bn r ≠ ((s.R k).hs i).blk) : ∀ r c, r < s.nb → mxE s k (i + 1) r c = mxE s k i r c := fun r c hr => by
  unfold mxE
  split
  · rfl
  · split
    · show pul _ _ i + _ = _
      rw [if_neg (fun q => hn r hr q.symm)]
      omega
    · rfl
theorem mxE_hit {s : Sys} (ho : SysOk s) {k i q : Nat} (hq : q < s.nb) (he : s.bn q = ((s.R k).hs i).blk) : ∀ r c, r < s.nb → mxE s k (i + 1) r c = setE (mxE s k i) q k (mxE s k i q k + ((s.R k).hs i).pulls) r c := fun r c hr => by
  unfold setE mxE
  by_cases h : c = k
  · subst h
    by_cases h2 : r = q
    · subst h2
      rw [if_neg (by omega), if_pos rfl, if_pos ⟨rfl, rfl⟩, if_neg (by omega), if_pos rfl]
      show pul _ _ i + _ = _
      rw [if_pos he.symm]
    · rw [if_neg (by omega), if_pos rfl, if_neg (fun z => h2 z.1), if_neg (by omega), if_pos rfl]
      show pul _ _ i + _ = _
      rw [if_neg, Int.add_zero]
      intro e
      have e2 : s.bn r = s.bn q := by rw [he, e]
      rcases Nat.lt_trichotomy r q with g | g | g
      · exact ho.bdis q hq r g e2
      · exact h2 g
      · exact ho.bdis r hr q g e2.symm
  · by_cases h3 : c < k
    · simp only [h3, h, and_false, if_true, if_false]
    · simp only [h3, h, and_false, if_false]
theorem mxE_at (s : Sys) (k i q : Nat) : mxE s k i q k = pul (s.R k) (s.bn q) i := by unfold mxE; rw [if_neg (by omega), if_pos rfl]
end Go.Proofs.YtcghjjfpjiacfaaDoor
