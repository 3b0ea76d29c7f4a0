/- Layer 9: a list of points is copied, and turned. -/
import Derived.Test.YtabpnkpedcgcpaaDoorVF5
import Derived.Test.YtabpnkpedcgcpaaDoorShelfG
import Derived.Test.YtabpnkpedcgcpaaDoorVCard
namespace Go.Proofs.YtabpnkpedcgcpaaDoor
open Go.RowKit Go.Shelf Go.Sort Go.Joins
set_option linter.unusedVariables false

def encP (x : Pt) : List Value := [.int .i64 x.x, .int .i64 x.y, .int .i64 x.z]
def lp (n : Nat) (f : Nat → Pt) : List Pt := (List.range n).map f
theorem lp_len (n : Nat) (f : Nat → Pt) : (lp n f).length = n := by unfold lp; simp
theorem lp_get (n : Nat) (f : Nat → Pt) (k : Nat) (h : k < n) : (lp n f).toArray[k]! = f k := by
  rw [getElem!_pos _ _ (by simpa [lp_len] using h)]
  simp [lp]
theorem flat_c (n : Nat) (f : Nat → Pt) (k r : Nat) (h : k < n) (hr : r < 3) : (flatK encP 3 (lp n f).toArray)[k * 3 + r]! = .int .i64 ((f k).at r) := by
  rw [get_flatK _ _ _ _ (by simp [lp_len]; omega), show (k * 3 + r) / 3 = k by omega, show (k * 3 + r) % 3 = r by omega, lp_get n f k h]
  have : r = 0 ∨ r = 1 ∨ r = 2 := by omega
  rcases this with rfl | rfl | rfl <;> rfl
theorem of_ptr {W : World} {b o n : Nat} {f : Nat → Pt} (h : ∀ i, i < n → W.cell? ⟨b, o + i * 3, none⟩ = some (.int .i64 (f i).x) ∧ W.cell? ⟨b, o + i * 3 + 1, none⟩ = some (.int .i64 (f i).y) ∧ W.cell? ⟨b, o + i * 3 + 2, none⟩ = some (.int .i64 (f i).z)) (t : Nat) (ht : t < n * 3) : W.cell? ⟨b, o + t, none⟩ = some ((flatK encP 3 (lp n f).toArray)[t]!) := by
  have q := h (t / 3) (by omega)
  have e : t % 3 = 0 ∨ t % 3 = 1 ∨ t % 3 = 2 := by omega
  rcases e with e | e | e
  · rw [show t = t / 3 * 3 + 0 by omega, flat_c n f _ 0 (by omega) (by omega)]; exact q.1
  · rw [show t = t / 3 * 3 + 1 by omega, flat_c n f _ 1 (by omega) (by omega), ← Nat.add_assoc]; exact q.2.1
  · rw [show t = t / 3 * 3 + 2 by omega, flat_c n f _ 2 (by omega) (by omega), ← Nat.add_assoc]; exact q.2.2
/-- Points in cells that may be written. -/
structure PtO (W : World) (g n : Nat) (f : Nat → Pt) : Prop where
  lt : g < W.heap.size
  c : ∀ i, i < n → W.cell? ⟨g, i * 3, none⟩ = some (.int .i64 (f i).x) ∧ W.cell? ⟨g, i * 3 + 1, none⟩ = some (.int .i64 (f i).y) ∧ W.cell? ⟨g, i * 3 + 2, none⟩ = some (.int .i64 (f i).z)
  fz : ∀ k, k < n * 3 → W.frozen? ⟨g, k, none⟩ = false
theorem PtO.on {W W2 : World} {g n : Nat} {f : Nat → Pt} (h : PtO W g n f) (hb : Below W.heap.size W W2) : PtO W2 g n f :=
  ⟨Nat.lt_of_lt_of_le h.lt hb.size, fun i hi => ⟨(hb.cell (p := ⟨g, i * 3, none⟩) h.lt).trans (h.c i hi).1, (hb.cell (p := ⟨g, i * 3 + 1, none⟩) h.lt).trans (h.c i hi).2.1, (hb.cell (p := ⟨g, i * 3 + 2, none⟩) h.lt).trans (h.c i hi).2.2⟩, fun k hk => (hb.frozen (p := ⟨g, k, none⟩) h.lt).trans (h.fz k hk)⟩
theorem PtO.setz {W : World} {g n : Nat} {f : Nat → Pt} (h : PtO W g n f) (i : Nat) (hi : i < n) (z : Int) : PtO (W.setCell ⟨g, i * 3 + 2, none⟩ (.int .i64 z)) g n (fun k => if k = i then ⟨(f k).x, (f k).y, z⟩ else f k) :=
  ⟨by simpa using h.lt, fun k hk => by
    have hc := h.c k hk
    refine ⟨?_, ?_, ?_⟩
    · rw [World.cell?_setCell_other _ _ _ _ (adr_ne (b := g) (i := i * 3 + 2) (j := k * 3) (by omega)), hc.1]
      split <;> rfl
    · rw [World.cell?_setCell_other _ _ _ _ (adr_ne (b := g) (i := i * 3 + 2) (j := k * 3 + 1) (by omega)), hc.2.1]
      split <;> rfl
    · by_cases e : k = i
      · subst e
        rw [if_pos rfl]
        exact World.cell?_setCell_same' _ _ _ (by rw [hc.2.2]; rfl)
      · rw [if_neg e, World.cell?_setCell_other _ _ _ _ (adr_ne (b := g) (i := i * 3 + 2) (j := k * 3 + 2) (by omega))]
        exact hc.2.2, fun k hk => by simpa using h.fz k hk⟩
theorem pto_of {W : World} {g n : Nat} {f : Nat → Pt} (hg : g < W.heap.size) (h : HoldsK encP 3 W g 0 (lp n f).toArray) : PtO W g n f := by
  have key : ∀ i r, i < n → r < 3 → W.cell? ⟨g, i * 3 + r, none⟩ = some (.int .i64 ((f i).at r)) ∧ W.frozen? ⟨g, i * 3 + r, none⟩ = false := fun i r hi hr => by
    have q := h (i * 3 + r) (by simp [lp_len]; omega)
    rw [flat_c n f i r hi hr, Nat.zero_add] at q
    exact q
  exact ⟨hg, fun i hi => ⟨(key i 0 hi (by omega)).1, (key i 1 hi (by omega)).1, (key i 2 hi (by omega)).1⟩, fun k hk => by
    have := (key (k / 3) (k % 3) (by omega) (by omega)).2
    rwa [show k / 3 * 3 + k % 3 = k by omega] at this⟩
/-- A slice of the call's own: as it was copied. -/
def OwnH (B : Nat) (W : World) (v : Value) (n : Nat) (f : Nat → Pt) : Prop := ∃ ao cp, v = .slice ao n cp ∧ n ≤ cp ∧ cp ≤ 9223372036854775807 ∧ (0 < n → ∃ g, ao = some ⟨g, 0, none⟩ ∧ B ≤ g ∧ g < W.heap.size ∧ HoldsK encP 3 W g 0 (lp n f).toArray)
def OwnO (B : Nat) (W : World) (v : Value) (n : Nat) (f : Nat → Pt) : Prop := ∃ ao cp, v = .slice ao n cp ∧ n ≤ cp ∧ cp ≤ 9223372036854775807 ∧ (0 < n → ∃ g, ao = some ⟨g, 0, none⟩ ∧ B ≤ g ∧ PtO W g n f)
theorem OwnH.o {B : Nat} {W : World} {v : Value} {n : Nat} {f : Nat → Pt} (h : OwnH B W v n f) : OwnO B W v n f := by
  obtain ⟨ao, cp, h1, h2, h3, h4⟩ := h
  exact ⟨ao, cp, h1, h2, h3, fun h0 => by
    obtain ⟨g, e, hb, hg, hh⟩ := h4 h0
    exact ⟨g, e, hb, pto_of hg hh⟩⟩
theorem OwnO.on {B : Nat} {W W2 : World} {v : Value} {n : Nat} {f : Nat → Pt} (h : OwnO B W v n f) (hb : Below W.heap.size W W2) : OwnO B W2 v n f := by
  obtain ⟨ao, cp, h1, h2, h3, h4⟩ := h
  exact ⟨ao, cp, h1, h2, h3, fun h0 => by
    obtain ⟨g, e, hl, hg⟩ := h4 h0
    exact ⟨g, e, hl, hg.on hb⟩⟩
theorem OwnH.on {B : Nat} {W W2 : World} {v : Value} {n : Nat} {f : Nat → Pt} (h : OwnH B W v n f) (hb : Below W.heap.size W W2) : OwnH B W2 v n f := by
  obtain ⟨ao, cp, h1, h2, h3, h4⟩ := h
  exact ⟨ao, cp, h1, h2, h3, fun h0 => by
    obtain ⟨g, e, hl, hs, hH⟩ := h4 h0
    exact ⟨g, e, hl, Nat.lt_of_lt_of_le hs hb.size, fun j hj => ⟨(hb.cell (p := ⟨g, 0 + j, none⟩) hs).trans (hH j hj).1, (hb.frozen (p := ⟨g, 0 + j, none⟩) hs).trans (hH j hj).2⟩⟩⟩
theorem OwnO.ptr {B : Nat} {W : World} {ao : Option Addr} {cp n : Nat} {f : Nat → Pt} (h : OwnO B W (.slice ao n cp) n f) : PtR W ao n f ∧ n ≤ cp ∧ cp ≤ 9223372036854775807 := by
  obtain ⟨ao', cp', h1, h2, h3, h4⟩ := h
  injection h1 with e1 e2 e3
  subst e1; subst e3
  refine ⟨fun h0 => ?_, h2, h3⟩
  obtain ⟨g, e, hl, hg⟩ := h4 h0
  exact ⟨g, 0, e, hg.lt, fun i hi => by
    have := hg.c i hi
    rw [Nat.zero_add]; exact this⟩
set_option maxHeartbeats 1000000 in
set_option maxRecDepth 100000 in
theorem Clone_zeroP (a : Addr) (c : Nat) (w : World) :
    Calls Tryd.prog 19 #[.slice (some a) 0 c] w fun e w' => ∃ ao cp, e = .returned (.slice ao 0 cp) ∧ cp ≤ 9223372036854775807 ∧ Below w.heap.size w w' := by
  obtain ⟨i0, hi, hz0, hz1, hz2⟩ := info_parts (show (Tryd.prog.info? 23).map (fun i => (i.zero, i.size, i.bytes)) = some (some (Value.agg #[.int .i64 0, .int .i64 0, .int .i64 0]), 3, 24) by kernel_rfl)
  have qs : ∀ (w : World) (a : Option Addr) (n c n' c' : Nat), (binOp .eql 24 (.slice a n c) (.slice none n' c')).run Tryd.prog w = .ok (.bool a.isNone) w := fun w a n c n' c' => Lib.run_eql_slice_nil w _ _ a n c n' c' Tryd.underlying24
  go_enter Tryd.func19, Tryd.ntmps19
  go_wp2_with (at_builtin; refine wpList_append_own _ rfl _ _ 24 rfl w.heap.size 23 i0 (.agg #[.int .i64 0, .int .i64 0, .int .i64 0]) 3 24 Tryd.underlying24 hi hz0 hz1 hz2 rfl (by decide) _ _ _ rfl (World.ownsRow_made w #[] 0 (Nat.le_refl _) (Nat.zero_le _) (by simp)) a 0 c [] rfl rfl (by intro j u hj; simp at hj) (by intro u hu; cases hu) (by unfold maxLen; omega) (by omega) (by simp) ?_)
  intro v' w1 hown hgrow hnil
  go_wp2
  go_ret
  have hb : Below w.heap.size w w1 := ((Below.refl _ w).alloc (Nat.le_refl _) _).grown hgrow (by simp) (by intro k hk; simp [Value.ownBlock] at hk; omega)
  obtain ⟨_, hx⟩ := hown
  rcases hx with ⟨rfl, _⟩ | ⟨g, cap, cur, rfl, hg, hh, hc, hm, _⟩
  · exact ⟨_, _, rfl, by omega, hb⟩
  · exact ⟨some ⟨g, 0, none⟩, cap, by simp, by unfold maxLen at hm; omega, hb⟩
theorem Clone_pts (ra : Option Addr) (n rc : Nat) (f : Nat → Pt) (w : World) (hp : PtR w ra n f) (hn : n ≤ 2000) :
    Calls Tryd.prog 19 #[.slice ra n rc] w fun e w' => (∃ v, e = .returned v ∧ OwnH w.heap.size w' v n f) ∧ Below w.heap.size w w' := by
  by_cases h0 : 0 < n
  · obtain ⟨b, o, rfl, hg, hc⟩ := hp h0
    have hQ := of_ptr hc
    obtain ⟨i0, hi, hz0, hz1, hz2⟩ := info_parts (show (Tryd.prog.info? 23).map (fun i => (i.zero, i.size, i.bytes)) = some (some (Value.agg #[.int .i64 0, .int .i64 0, .int .i64 0]), 3, 24) by kernel_rfl)
    have hsz : (flatK encP 3 (lp n f).toArray).size = n * 3 := by simp [lp_len]
    have h := AnyE.slices_Clone Tryd.layClo i0 _ 3 24 hi hz0 hz1 hz2 rfl (by decide) Tryd.sizeOf23 b o n rc (flatK encP 3 (lp n f).toArray).toList w (by rw [Array.length_toList, hsz]) (by unfold maxLen; omega) (by omega)
      (fun j u hj => by
        rw [Array.getElem?_toList] at hj
        have hs : j < (flatK encP 3 (lp n f).toArray).size := (Array.getElem?_eq_some_iff.1 hj).1
        rw [hQ j (by omega), getElem!_pos _ j hs]
        exact congrArg some (Array.getElem?_eq_some_iff.1 hj).2)
      (fun u hu => by
        obtain ⟨j, hj, rfl⟩ := List.getElem_of_mem hu
        have hs : j < (flatK encP 3 (lp n f).toArray).size := by simpa using hj
        rw [Array.getElem_toList, ← getElem!_pos _ j hs, show j = j / 3 * 3 + j % 3 by omega, flat_c n f _ _ (by omega) (by omega)]
        rfl)
    refine (show Calls Tryd.prog 19 _ _ _ from h).mono ?_
    rintro e w' ⟨v, rfl, hown, _, hb⟩
    refine ⟨⟨v, rfl, ?_⟩, hb⟩
    obtain ⟨_, hx⟩ := hown
    rcases hx with ⟨_, h0'⟩ | ⟨g, cap, cur, rfl, hg2, hh, hc2, hm, hz, ht⟩
    · omega
    · refine ⟨_, cap, rfl, hc2, by unfold maxLen at hm; omega, fun _ => ⟨g, rfl, hg2, (Array.getElem?_eq_some_iff.1 hh).1, ?_⟩⟩
      intro j hj
      have hs2 : j < n * 3 := by rw [← hsz]; simpa using hj
      refine ⟨?_, ?_⟩
      · unfold World.cell?
        simp only [hh]
        rw [Nat.zero_add]
        have q : (cur.toList.take (n * 3))[j]? = (flatK encP 3 (lp n f).toArray).toList[j]? := by rw [ht]
        rw [List.getElem?_take, if_pos hs2] at q
        simp only [Array.getElem?_toList] at q
        rw [getElem!_pos _ j (by rw [hsz]; exact hs2)]
        simpa [Array.getElem?_eq_getElem (show j < (flatK encP 3 (lp n f).toArray).size by rw [hsz]; exact hs2)] using q
      · unfold World.frozen?
        simp [hh]
  · have e0 : n = 0 := by omega
    subst e0
    cases ra with
    | none =>
      refine (show Calls Tryd.prog 19 _ _ _ from AnyE.slices_Clone_nil Tryd.layClo 0 rc w).mono ?_
      rintro e w' ⟨rfl, rfl⟩
      exact ⟨⟨_, rfl, none, 0, rfl, Nat.le_refl _, by omega, fun h => by omega⟩, Below.refl _ _⟩
    | some a =>
      refine (Clone_zeroP a rc w).mono ?_
      rintro e w' ⟨ao, cp, rfl, hcp, hb⟩
      exact ⟨⟨_, rfl, ao, cp, rfl, Nat.zero_le _, hcp, fun h => by omega⟩, hb⟩
theorem below_putRowP {B : Nat} (w : World) (n blk off : Nat) (d : Array Pt) (h : B ≤ blk) : Below B w (putRowK encP 3 (Sort.ahead w n) blk off d) :=
  ⟨rfl, rfl, rfl, by simp [putRowK, Sort.ahead], fun k hk => by
    show ((Sort.ahead w n).heap.modify blk _)[k]? = w.heap[k]?
    rw [Array.getElem?_modify, if_neg (by omega)]; rfl⟩
theorem lp_rev (n : Nat) (f : Nat → Pt) : (lp n f).toArray.reverse = (lp n (fun i => f (n - 1 - i))).toArray := by
  apply Array.ext
  · simp [lp_len]
  · intro i h1 h2
    have hi : i < n := by simpa [lp_len] using h2
    simp [lp]
theorem Reverse_pts (B : Nat) (n : Nat) (f : Nat → Pt) (v : Value) (W : World) (hn : n ≤ 2000) (hO : OwnH B W v n f) :
    Calls Tryd.prog 20 #[v] W fun e w' => e = .returned (.tuple #[]) ∧ OwnO B w' v n (fun i => f (n - 1 - i)) ∧ Below B W w' := by
  obtain ⟨ao, cp, rfl, h2, h3, h4⟩ := hO
  by_cases h0 : 0 < n
  · obtain ⟨g, rfl, hg, hs, hH⟩ := h4 h0
    have h := AnyQ.slices_Reverse Tryd.layRev 3 Tryd.isAgg23 Tryd.sizeOf23 encP (fun _ => rfl) (fun x u hu => by simp [encP] at hu; rcases hu with rfl | rfl | rfl <;> rfl) g 0 cp (lp n f).toArray W hH (by simp [lp_len]; omega)
    have hsz : (lp n f).toArray.size = n := by simp [lp_len]
    rw [hsz] at h
    refine (show Calls Tryd.prog 20 _ _ _ from h).mono ?_
    rintro e w' ⟨rfl, k, rfl⟩
    refine ⟨rfl, ⟨_, cp, rfl, h2, h3, fun _ => ⟨g, rfl, hg, pto_of (by simpa [putRowK, Sort.ahead] using hs) ?_⟩⟩, below_putRowP W k g 0 _ hg⟩
    rw [lp_rev]
    exact holdsK_putRowK encP 3 _ g 0 (lp n f).toArray (lp n (fun i => f (n - 1 - i))).toArray (holdsK_ahead encP 3 W k g 0 _ hH) (by simp [lp_len])
  · have e0 : n = 0 := by omega
    subst e0
    refine (show Calls Tryd.prog 20 _ _ _ from AnyQ.slices_Reverse_empty Tryd.layRev ao cp W).mono ?_
    rintro e w' ⟨rfl, rfl⟩
    exact ⟨rfl, ⟨ao, cp, rfl, Nat.zero_le _, h3, fun h => by omega⟩, Below.refl _ _⟩
end Go.Proofs.YtabpnkpedcgcpaaDoor
