/- Layer 2: a list of fractions is copied, and turned. -/
import Derived.Test.YtfcplndfoboaaaaDoorRLawTexts
import Derived.Test.YtfcplndfoboaaaaDoorShelfG
namespace Go.Proofs.YtfcplndfoboaaaaDoor
set_option linter.unusedVariables false

/-- The sum of a list as a fraction that is not reduced. -/
def srS : List (Int × Int) → Int × Int
  | [] => (0, 1)
  | x :: r => (x.1 * (srS r).2 + (srS r).1 * x.2, x.2 * (srS r).2)
theorem srS_app : ∀ (a b : List (Int × Int)), srS (a ++ b) = ((srS a).1 * (srS b).2 + (srS b).1 * (srS a).2, (srS a).2 * (srS b).2)
  | [], b => by
    show srS b = (0 * (srS b).2 + (srS b).1 * 1, 1 * (srS b).2)
    rw [Int.zero_mul, Int.zero_add, Int.mul_one, Int.one_mul]
  | x :: r, b => by
    show (x.1 * (srS (r ++ b)).2 + (srS (r ++ b)).1 * x.2, x.2 * (srS (r ++ b)).2) = _
    rw [srS_app r b]
    show _ = ((x.1 * (srS r).2 + (srS r).1 * x.2) * (srS b).2 + (srS b).1 * (x.2 * (srS r).2), x.2 * (srS r).2 * (srS b).2)
    generalize (srS r).1 = p
    generalize (srS r).2 = q
    generalize (srS b).1 = u
    generalize (srS b).2 = v
    congr 1
    · show x.1 * (q * v) + (p * v + u * q) * x.2 = _
      grind
    · show x.2 * (q * v) = _
      grind
theorem srS_rev : ∀ (l : List (Int × Int)), srS l.reverse = srS l
  | [] => rfl
  | x :: r => by
    rw [List.reverse_cons, srS_app, srS_rev r]
    show ((srS r).1 * (x.2 * 1) + (x.1 * 1 + 0 * x.2) * (srS r).2, (srS r).2 * (x.2 * 1)) = (x.1 * (srS r).2 + (srS r).1 * x.2, x.2 * (srS r).2)
    congr 1
    · grind
    · grind
theorem srS_pos : ∀ {l : List (Int × Int)}, allV l = true → 0 < (srS l).2
  | [], _ => by decide
  | x :: r, h => by
    rw [allV_cons, Bool.and_eq_true] at h
    have := (vB_vld h.1).d1
    exact Int.mul_pos (by omega) (srS_pos h.2)
theorem allV_app {a b : List (Int × Int)} : allV (a ++ b) = (allV a && allV b) := by simp [allV]
theorem allV_rev {l : List (Int × Int)} : allV l.reverse = allV l := by
  cases h : allV l
  · cases h2 : allV l.reverse
    · rfl
    · have : allV l = true := by
        unfold allV at *
        rw [List.all_eq_true] at *
        exact fun x hx => h2 x (by simpa using hx)
      rw [this] at h; cases h
  · unfold allV at *
    rw [List.all_eq_true] at *
    exact fun x hx => h x (by simpa using hx)

theorem sumT_val : ∀ (l : List (Int × Int)) (n d x y : Int), Vld n d → allV l = true → sumT l n d = (x, y, 0) → Vld x y ∧ x * (d * (srS l).2) = (n * (srS l).2 + (srS l).1 * d) * y
  | [], n, d, x, y, v, _, h => by
    obtain ⟨c1, c2, _⟩ := three (show (n, d, 0) = (x, y, 0) from h)
    subst c1; subst c2
    exact ⟨v, by show n * (d * 1) = (n * 1 + 0 * d) * d; grind⟩
  | z :: r, n, d, x, y, v, ha, h => by
    rw [allV_cons, Bool.and_eq_true] at ha
    unfold sumT at h
    rcases addT_cases n d z.1 z.2 with ⟨n1, d1, e, _, vz, v1, hv⟩ | ⟨e1, e, ne, _⟩
    · rw [e, if_pos rfl] at h
      obtain ⟨vx, ih⟩ := sumT_val r n1 d1 x y v1 ha.2 h
      refine ⟨vx, ?_⟩
      show x * (d * (z.2 * (srS r).2)) = (n * (z.2 * (srS r).2) + (z.1 * (srS r).2 + (srS r).1 * z.2) * d) * y
      have hd : d1 ≠ 0 := by have := v1.d1; omega
      refine Int.eq_of_mul_eq_mul_right hd ?_
      generalize (srS r).1 = p at *
      generalize (srS r).2 = q at *
      grind
    · rw [e, if_neg ne] at h
      obtain ⟨_, _, c3⟩ := three h
      exact absurd c3 ne
theorem sumT_err : ∀ (l : List (Int × Int)) (n d x y z : Int), Vld n d → allV l = true → sumT l n d = (x, y, z) → z ≠ 0 → x = 0 ∧ y = 0 ∧ z = 5
  | [], n, d, x, y, z, _, _, h, hz => by
    obtain ⟨_, _, c3⟩ := three (show (n, d, 0) = (x, y, z) from h)
    exact absurd c3.symm hz
  | a :: r, n, d, x, y, z, v, ha, h, hz => by
    rw [allV_cons, Bool.and_eq_true] at ha
    unfold sumT at h
    rcases addT_cases n d a.1 a.2 with ⟨n1, d1, e, _, va, v1, hv⟩ | ⟨e1, e, ne, _⟩
    · rw [e, if_pos rfl] at h
      exact sumT_err r n1 d1 x y z v1 ha.2 h hz
    · rw [e, if_neg ne] at h
      obtain ⟨c1, c2, c3⟩ := three h
      refine ⟨c1.symm, c2.symm, ?_⟩
      have va := vB_vld ha.1
      unfold addT at e
      rw [okT_vld v va] at e
      rcases redT_cases (n * a.2 + a.1 * d) (d * a.2) (dpos v va) with ⟨n2, d2, q, _⟩ | q
      · rw [q] at e
        obtain ⟨_, _, c⟩ := three e
        exact absurd c.symm ne
      · rw [q] at e
        obtain ⟨_, _, c⟩ := three e
        rw [← c3]; exact c.symm
theorem sumT_app : ∀ (a b : List (Int × Int)) (n d : Int), sumT (a ++ b) n d = if (sumT a n d).2.2 = 0 then sumT b (sumT a n d).1 (sumT a n d).2.1 else (0, 0, (sumT a n d).2.2)
  | [], b, n, d => by
    show sumT b n d = if (0 : Int) = 0 then sumT b n d else _
    rw [if_pos rfl]
  | x :: r, b, n, d => by
    have u : ∀ l, sumT (x :: l) n d = if (addT n d x.1 x.2).2.2 = 0 then sumT l (addT n d x.1 x.2).1 (addT n d x.1 x.2).2.1 else (0, 0, (addT n d x.1 x.2).2.2) := fun _ => rfl
    rw [List.cons_append, u, u]
    by_cases g : (addT n d x.1 x.2).2.2 = 0
    · rw [if_pos g, if_pos g]
      exact sumT_app r b _ _
    · rw [if_neg g, if_neg g, if_neg g]

theorem one_vld : Vld 0 1 := ⟨by omega, by omega, by omega, by omega, by decide⟩
theorem sumS_yes {l : List (Int × Int)} {x y : Int} (h : sumS l = (x, y, 0)) : allV l = true ∧ l.length ≤ 1000 ∧ sumT l 0 1 = (x, y, 0) := by
  unfold sumS at h
  split at h
  · rename_i hv
    split at h
    · obtain ⟨_, _, c⟩ := three h; cases c
    · exact ⟨hv, by omega, h⟩
  · obtain ⟨_, _, c⟩ := three h; cases c
theorem sumS_zero {l : List (Int × Int)} {x y z : Int} (h : sumS l = (x, y, z)) (hz : z ≠ 0) : x = 0 ∧ y = 0 := by
  unfold sumS at h
  split at h
  · rename_i hv
    split at h
    · obtain ⟨c1, c2, _⟩ := three h; exact ⟨c1.symm, c2.symm⟩
    · have := sumT_err l 0 1 x y z one_vld hv h hz
      exact ⟨this.1, this.2.1⟩
  · obtain ⟨c1, c2, _⟩ := three h; exact ⟨c1.symm, c2.symm⟩
theorem sumS_first {a b : List (Int × Int)} {x y : Int} (h : sumS (a ++ b) = (x, y, 0)) : ∃ n d, sumS a = (n, d, 0) := by
  obtain ⟨hv, hl, ht⟩ := sumS_yes h
  rw [allV_app, Bool.and_eq_true] at hv
  rw [List.length_append] at hl
  rw [sumT_app] at ht
  split at ht
  · rename_i g
    obtain ⟨p, q, r, e⟩ : ∃ p q r, sumT a 0 1 = (p, q, r) := ⟨_, _, _, rfl⟩
    rw [e] at g
    have g2 : r = 0 := g
    subst g2
    refine ⟨p, q, ?_⟩
    unfold sumS
    rw [if_pos hv.1, if_neg (by omega), e]
  · rename_i g
    obtain ⟨_, _, c⟩ := three ht
    exact absurd c g
theorem sumS_val {l : List (Int × Int)} {x y : Int} (h : sumS l = (x, y, 0)) : Vld x y ∧ x * (srS l).2 = (srS l).1 * y := by
  obtain ⟨hv, hl, ht⟩ := sumS_yes h
  obtain ⟨v, e⟩ := sumT_val l 0 1 x y one_vld hv ht
  refine ⟨v, ?_⟩
  rw [Int.one_mul, Int.zero_mul, Int.zero_add, Int.mul_one] at e
  exact e
theorem sumS_both {a b : List (Int × Int)} {x y n d m e : Int} (h : sumS (a ++ b) = (x, y, 0)) (h1 : sumS a = (n, d, 0)) (h2 : sumS b = (m, e, 0)) : addT n d m e = (x, y, 0) := by
  obtain ⟨v, q⟩ := sumS_val h
  obtain ⟨v1, q1⟩ := sumS_val h1
  obtain ⟨v2, q2⟩ := sumS_val h2
  have p1 := srS_pos (sumS_yes h1).1
  have p2 := srS_pos (sumS_yes h2).1
  unfold addT
  rw [okT_vld v1 v2, ← redT_vld v]
  refine redT_eq (dpos v1 v2) (by have := v.d1; omega) ?_
  rw [srS_app] at q
  have q : x * ((srS a).2 * (srS b).2) = ((srS a).1 * (srS b).2 + (srS b).1 * (srS a).2) * y := q
  have hp : (srS a).2 * (srS b).2 ≠ 0 := by have := Int.mul_pos p1 p2; omega
  refine Int.eq_of_mul_eq_mul_right hp ?_
  generalize (srS a).1 = p at *
  generalize (srS a).2 = r at *
  generalize (srS b).1 = s at *
  generalize (srS b).2 = t at *
  have k1 : (n * e + m * d) * y * (r * t) = (n * r) * (e * t * y) + (m * t) * (d * r * y) := by grind
  rw [k1, q1, q2]
  have k2 : x * (d * e) * (r * t) = x * (r * t) * (d * e) := by grind
  rw [k2, q]
  grind
theorem sumS_back {l : List (Int × Int)} {x y n d e : Int} (h : sumS l = (x, y, 0)) (h1 : sumS l.reverse = (n, d, e)) : (e = 5 ∧ n = 0 ∧ d = 0) ∨ (e = 0 ∧ n = x ∧ d = y) := by
  by_cases he : e = 0
  · subst he
    obtain ⟨v, q⟩ := sumS_val h
    obtain ⟨v1, q1⟩ := sumS_val h1
    rw [srS_rev] at q1
    have p := srS_pos (sumS_yes h).1
    right
    have u : n = x ∧ d = y := by
      refine uniq (by have := v1.d1; omega) (by have := v.d1; omega) v1.co v.co ?_
      have hp : (srS l).2 ≠ 0 := by omega
      refine Int.eq_of_mul_eq_mul_right hp ?_
      have k1 : n * y * (srS l).2 = n * (srS l).2 * y := by grind
      have k2 : x * d * (srS l).2 = x * (srS l).2 * d := by grind
      rw [k1, k2, q, q1]
      grind
    exact ⟨rfl, u.1, u.2⟩
  · left
    obtain ⟨hv, hl, ht⟩ := sumS_yes h
    unfold sumS at h1
    rw [allV_rev, hv, if_pos rfl, List.length_reverse, if_neg (by omega)] at h1
    have := sumT_err _ 0 1 n d e one_vld (by rw [allV_rev]; exact hv) h1 he
    exact ⟨this.2.2, this.1, this.2.1⟩


open Go.RowKit Go.Shelf Go.Sort

def encF (x : Int × Int) : List Value := [.int .i64 x.1, .int .i64 x.2]
theorem flat_even (l : List (Int × Int)) (k : Nat) (h : k < l.length) : (flatK encF 2 l.toArray)[k * 2]! = .int .i64 l[k].1 := by
  rw [get_flatK _ _ _ _ (by simp; omega), show k * 2 / 2 = k by omega, show k * 2 % 2 = 0 by omega]
  rw [getElem!_pos l.toArray k (by simpa using h)]
  rfl
theorem flat_odd (l : List (Int × Int)) (k : Nat) (h : k < l.length) : (flatK encF 2 l.toArray)[k * 2 + 1]! = .int .i64 l[k].2 := by
  rw [get_flatK _ _ _ _ (by simp; omega), show (k * 2 + 1) / 2 = k by omega, show (k * 2 + 1) % 2 = 1 by omega]
  rw [getElem!_pos l.toArray k (by simpa using h)]
  rfl
theorem frs_of {W : World} {b o : Nat} {l : List (Int × Int)} (h : ∀ t, t < l.length * 2 → W.cell? ⟨b, o + t, none⟩ = some ((flatK encF 2 l.toArray)[t]!)) : Frs W b o l := fun k hk =>
  ⟨by rw [h (k * 2) (by omega), flat_even l k hk], by rw [Nat.add_assoc, h (k * 2 + 1) (by omega), flat_odd l k hk]⟩
theorem of_frs {W : World} {b o : Nat} {l : List (Int × Int)} (h : Frs W b o l) (t : Nat) (ht : t < l.length * 2) : W.cell? ⟨b, o + t, none⟩ = some ((flatK encF 2 l.toArray)[t]!) := by
  have hk : t / 2 < l.length := by omega
  have q := h (t / 2) hk
  rcases Nat.mod_two_eq_zero_or_one t with e | e
  · rw [show t = t / 2 * 2 by omega, flat_even l _ hk]; exact q.1
  · rw [show t = t / 2 * 2 + 1 by omega, flat_odd l _ hk, ← Nat.add_assoc]; exact q.2

/-- A list in cells of the call's own. -/
def OwnF (w W : World) (v : Value) (l : List (Int × Int)) : Prop := ∃ g cap, v = .slice (some ⟨g, 0, none⟩) l.length cap ∧ w.heap.size ≤ g ∧ g < W.heap.size ∧ HoldsK encF 2 W g 0 l.toArray
theorem Clone_any (l : List (Int × Int)) (b o cp : Nat) (w : World) (hne : l ≠ []) (hl : l.length ≤ 2000) (hQ : Frs w b o l) :
    Calls Tryd.prog 17 #[.slice (some ⟨b, o, none⟩) l.length cp] w fun e w' => ∃ v, e = .returned v ∧ OwnF w w' v l ∧ Below w.heap.size w w' := by
  obtain ⟨i0, hi, hz0, hz1, hz2⟩ := info_parts (show (Tryd.prog.info? 24).map (fun i => (i.zero, i.size, i.bytes)) = some (some (Value.agg #[.int .i64 0, .int .i64 0]), 2, 16) by kernel_rfl)
  have h := AnyE.slices_Clone Tryd.layClo i0 _ 2 16 hi hz0 hz1 hz2 rfl (by decide) Tryd.sizeOf24 b o l.length cp (flatK encF 2 l.toArray).toList w (by simp) (by unfold maxLen; omega) (by omega)
    (fun j u hj => by
      rw [Array.getElem?_toList] at hj
      have hs : j < (flatK encF 2 l.toArray).size := (Array.getElem?_eq_some_iff.1 hj).1
      have hs2 : j < l.length * 2 := by simpa using hs
      rw [of_frs hQ j hs2, getElem!_pos _ j hs]
      exact congrArg some (Array.getElem?_eq_some_iff.1 hj).2)
    (fun u hu => by
      obtain ⟨j, hj, rfl⟩ := List.getElem_of_mem hu
      have hs : j < (flatK encF 2 l.toArray).size := by simpa using hj
      have hs2 : j < l.length * 2 := by simpa using hs
      rw [Array.getElem_toList, ← getElem!_pos _ j hs]
      rcases Nat.mod_two_eq_zero_or_one j with e | e
      · rw [show j = j / 2 * 2 by omega, flat_even l _ (by omega)]; rfl
      · rw [show j = j / 2 * 2 + 1 by omega, flat_odd l _ (by omega)]; rfl)
  refine (show Calls Tryd.prog 17 _ _ _ from h).mono ?_
  rintro e w' ⟨v, rfl, hown, _, hb⟩
  refine ⟨v, rfl, ?_, hb⟩
  obtain ⟨_, hx⟩ := hown
  rcases hx with ⟨_, h0⟩ | ⟨g, cap, cur, rfl, hg, hh, hc, hm, hz, ht⟩
  · exact absurd (List.length_eq_zero_iff.1 h0) hne
  · refine ⟨g, cap, rfl, hg, ?_, ?_⟩
    · rcases Nat.lt_or_ge g w'.heap.size with h' | h'
      · exact h'
      · rw [Array.getElem?_eq_none h'] at hh; cases hh
    · intro j hj
      have hs2 : j < l.length * 2 := by simpa using hj
      refine ⟨?_, ?_⟩
      · unfold World.cell?
        simp only [hh]
        rw [Nat.zero_add]
        have q : (cur.toList.take (l.length * 2))[j]? = (flatK encF 2 l.toArray).toList[j]? := by rw [ht]
        rw [List.getElem?_take, if_pos hs2] at q
        simp only [Array.getElem?_toList] at q
        rw [getElem!_pos _ j hj]
        simpa [Array.getElem?_eq_getElem hj] using q
      · unfold World.frozen?
        simp [hh]
theorem below_putRow {B : Nat} (w : World) (n blk off : Nat) (d : Array (Int × Int)) (h : B ≤ blk) : Below B w (putRowK encF 2 (Sort.ahead w n) blk off d) :=
  ⟨rfl, rfl, rfl, by simp [putRowK, Sort.ahead], fun k hk => by
    show ((Sort.ahead w n).heap.modify blk _)[k]? = w.heap[k]?
    rw [Array.getElem?_modify, if_neg (by omega)]; rfl⟩
theorem Reverse_any (l : List (Int × Int)) (v : Value) (w W : World) (hl : l.length ≤ 2000) (hO : OwnF w W v l) :
    Calls Tryd.prog 18 #[v] W fun e w' => e = .returned (.tuple #[]) ∧ OwnF w w' v l.reverse ∧ Below w.heap.size W w' := by
  obtain ⟨g, cap, rfl, hg, hs, hH⟩ := hO
  have h := AnyQ.slices_Reverse Tryd.layRev 2 Tryd.isAgg24 Tryd.sizeOf24 encF (fun _ => rfl) (fun x u hu => by simp [encF] at hu; rcases hu with rfl | rfl <;> rfl) g 0 cap l.toArray W hH (by simp; omega)
  refine (show Calls Tryd.prog 18 _ _ _ from h).mono ?_
  rintro e w' ⟨rfl, n, rfl⟩
  have e : l.toArray.reverse = l.reverse.toArray := by simp
  refine ⟨rfl, ⟨g, cap, by simp, hg, by simpa [putRowK, Sort.ahead] using hs, ?_⟩, below_putRow W n g 0 _ hg⟩
  rw [e]
  exact holdsK_putRowK encF 2 _ g 0 l.toArray l.reverse.toArray (holdsK_ahead encF 2 W n g 0 _ hH) (by simp)
theorem OwnF.frs {w W : World} {v : Value} {l : List (Int × Int)} (h : OwnF w W v l) : ∃ g cap, v = .slice (some ⟨g, 0, none⟩) l.length cap ∧ g < W.heap.size ∧ Frs W g 0 l := by
  obtain ⟨g, cap, rfl, hg, hs, hH⟩ := h
  exact ⟨g, cap, rfl, hs, frs_of fun t ht => (hH t (by simpa using ht)).1⟩

set_option maxHeartbeats 1000000 in
set_option maxRecDepth 100000 in
theorem Clone_zero (a : Addr) (c : Nat) (w : World) :
    Calls Tryd.prog 17 #[.slice (some a) 0 c] w fun e w' => ∃ ao cp, e = .returned (.slice ao 0 cp) ∧ Below w.heap.size w w' := by
  obtain ⟨i0, hi, hz0, hz1, hz2⟩ := info_parts (show (Tryd.prog.info? 24).map (fun i => (i.zero, i.size, i.bytes)) = some (some (Value.agg #[.int .i64 0, .int .i64 0]), 2, 16) by kernel_rfl)
  have qs : ∀ (w : World) (a : Option Addr) (n c n' c' : Nat), (binOp .eql 22 (.slice a n c) (.slice none n' c')).run Tryd.prog w = .ok (.bool a.isNone) w := fun w a n c n' c' => Lib.run_eql_slice_nil w _ _ a n c n' c' Tryd.underlying22
  go_enter Tryd.func17, Tryd.ntmps17
  go_wp2_with (at_builtin; refine wpList_append_own _ rfl _ _ 22 rfl w.heap.size 24 i0 (.agg #[.int .i64 0, .int .i64 0]) 2 16 Tryd.underlying22 hi hz0 hz1 hz2 rfl (by decide) _ _ _ rfl (World.ownsRow_made w #[] 0 (Nat.le_refl _) (Nat.zero_le _) (by simp)) a 0 c [] rfl rfl (by intro j u hj; simp at hj) (by intro u hu; cases hu) (by unfold maxLen; omega) (by omega) (by simp) ?_)
  intro v' w1 hown hgrow hnil
  go_wp2
  go_ret
  have hb : Below w.heap.size w w1 := ((Below.refl _ w).alloc (Nat.le_refl _) _).grown hgrow (by simp) (by intro k hk; simp [Value.ownBlock] at hk; omega)
  obtain ⟨_, hx⟩ := hown
  rcases hx with ⟨rfl, _⟩ | ⟨g, cap, cur, rfl, _⟩
  · exact ⟨_, _, rfl, hb⟩
  · exact ⟨some ⟨g, 0, none⟩, cap, by simp, hb⟩

/-- A slice that the call has made: empty, or in cells of its own. -/
def Mine (w W : World) (v : Value) (l : List (Int × Int)) : Prop := (l = [] ∧ ∃ ao cp, v = .slice ao 0 cp) ∨ OwnF w W v l
theorem Clone_all (l : List (Int × Int)) (ao : Option Addr) (cp : Nat) (w : World) (hl : l.length ≤ 2000) (hQ : LsR w ao l) :
    Calls Tryd.prog 17 #[.slice ao l.length cp] w fun e w' => ∃ v, e = .returned v ∧ Mine w w' v l ∧ Below w.heap.size w w' := by
  by_cases hne : l = []
  · subst hne
    cases ao with
    | none =>
      refine (show Calls Tryd.prog 17 _ _ _ from AnyE.slices_Clone_nil Tryd.layClo 0 cp w).mono ?_
      rintro e w' ⟨rfl, rfl⟩
      exact ⟨_, rfl, .inl ⟨rfl, _, _, rfl⟩, Below.refl _ _⟩
    | some a =>
      refine (Clone_zero a cp w).mono ?_
      rintro e w' ⟨ao, c, rfl, hb⟩
      exact ⟨_, rfl, .inl ⟨rfl, _, _, rfl⟩, hb⟩
  · rcases hQ with h | ⟨b, o, rfl, h1, h2⟩
    · exact absurd h hne
    · refine (Clone_any l b o cp w hne hl h2).mono ?_
      rintro e w' ⟨v, rfl, ho, hb⟩
      exact ⟨v, rfl, .inr ho, hb⟩
theorem Mine.on {w W W2 : World} {v : Value} {l : List (Int × Int)} (h : Mine w W v l) (hb : Below W.heap.size W W2) : Mine w W2 v l := by
  rcases h with h | ⟨g, cap, rfl, hg, hs, hH⟩
  · exact .inl h
  · refine .inr ⟨g, cap, rfl, hg, Nat.lt_of_lt_of_le hs hb.size, fun j hj => ?_⟩
    exact ⟨(hb.cell (p := ⟨g, 0 + j, none⟩) hs).trans (hH j hj).1, (hb.frozen (p := ⟨g, 0 + j, none⟩) hs).trans (hH j hj).2⟩
theorem Reverse_all (l : List (Int × Int)) (v : Value) (w W : World) (hl : l.length ≤ 2000) (hO : Mine w W v l) :
    Calls Tryd.prog 18 #[v] W fun e w' => e = .returned (.tuple #[]) ∧ Mine w w' v l.reverse ∧ Below w.heap.size W w' := by
  rcases hO with ⟨rfl, ao, cp, rfl⟩ | hO
  · refine (show Calls Tryd.prog 18 _ _ _ from AnyQ.slices_Reverse_empty Tryd.layRev ao cp W).mono ?_
    rintro e w' ⟨rfl, rfl⟩
    exact ⟨rfl, .inl ⟨rfl, _, _, rfl⟩, Below.refl _ _⟩
  · refine (Reverse_any l v w W hl hO).mono ?_
    rintro e w' ⟨rfl, ho, hb⟩
    exact ⟨rfl, .inr ho, hb⟩
theorem Sum_mine (l : List (Int × Int)) (v : Value) (w W : World) (hl : l.length ≤ 2000) (hM : Mine w W v l) (hO : ∀ x ∈ l, FrI x) (x y z : Int) (h : sumS l = (x, y, z)) :
    Calls Tryd.prog 6 #[v] W fun r w' => r = .returned (.tuple #[.agg #[.int .i64 x, .int .i64 y], .int .i64 z]) ∧ Below W.heap.size W w' := by
  rcases hM with ⟨rfl, ao, cp, rfl⟩ | hM
  · exact Sum_all [] ao cp W (by simp) (.inl rfl) (fun _ h => by cases h) x y z h
  · obtain ⟨g, cap, rfl, hs, hF⟩ := hM.frs
    exact Sum_all l _ cap W hl (.inr ⟨g, 0, rfl, hs, hF⟩) hO x y z h

end Go.Proofs.YtfcplndfoboaaaaDoor
