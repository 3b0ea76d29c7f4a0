/- Layer 7: the reference's Check, walked. -/
import Derived.Test.YtjonhhmapbibaaaDoorUChb
import Derived.Test.YtjonhhmapbibaaaDoorURef
namespace Go.Proofs.YtjonhhmapbibaaaDoor
open Go.ChangeShapes Go.WideShapes Go.ChangeAt Go.RowKit Go.Joins Go.Deep Go.Shelf
set_option linter.unusedVariables false

theorem sumZ_succ (f : Nat → Int) (zs : List Int) (i : Nat) : sumZ f zs (i + 1) = sumZ f zs i + f (nth zs i).toNat := rfl
theorem ixs_one {p q : Nat → Bool} {x : Nat} : ∀ {n : Nat}, (∀ i, i < n → q i = (p i || decide (i = x))) → p x = false → (ixs q n).length = (ixs p n).length + if x < n then 1 else 0
  | 0, _, _ => by simp [ixs]
  | n + 1, h, hx => by
    rw [ixs_step, ixs_step, List.length_append, List.length_append, ixs_one (fun i hi => h i (by omega)) hx, h n (by omega)]
    by_cases e : n = x
    · subst e
      rw [hx, if_neg (show ¬ n < n by omega), if_pos (show n < n + 1 by omega)]
      simp
    · rw [decide_eq_false e, Bool.or_false]
      by_cases l : x < n
      · rw [if_pos l, if_pos (show x < n + 1 by omega)]; cases p n <;> simp <;> omega
      · rw [if_neg l, if_neg (show ¬ x < n + 1 by omega)]; cases p n <;> simp
theorem ixs_full {p : Nat → Bool} : ∀ {n : Nat}, (ixs p n).length = n ↔ ∀ i, i < n → p i = true
  | 0 => by simp [ixs]
  | n + 1 => by
    rw [ixs_step, List.length_append]
    have hle : (ixs p n).length ≤ n := by unfold ixs; exact Nat.le_trans (List.length_filter_le _ _) (by simp)
    constructor
    · intro h i hi
      cases hp : p n with
      | false => rw [hp] at h; simp at h; omega
      | true =>
        rw [hp] at h
        simp at h
        by_cases e : i = n
        · rw [e]; exact hp
        · exact ixs_full.1 h i (by omega)
    · intro h
      rw [h n (by omega), ixs_full.2 (fun i hi => h i (by omega))]; simp
/-- How many indices a set has. -/
def szN (n s : Nat) : Nat := (ixs (bitI n s) n).length
theorem szN_zero (n : Nat) : szN n 0 = 0 := by
  unfold szN
  rw [show ixs (bitI n 0) n = [] from ?_]
  · rfl
  · unfold ixs; rw [List.filter_eq_nil_iff]; intro a _; unfold bitI; simp
theorem szN_add {n s x : Nat} (hx : x < n) (hb : s.testBit (n - 1 - x) = false) : szN n (s ||| 2 ^ (n - 1 - x)) = szN n s + 1 := by
  unfold szN
  rw [ixs_one (p := bitI n s) (x := x) (fun i hi => ?_) (by unfold bitI; exact hb), if_pos hx]
  unfold bitI
  rw [Nat.testBit_or, Nat.testBit_two_pow]
  congr 1
  by_cases e : i = x
  · subst e; simp
  · rw [decide_eq_false e, decide_eq_false (by omega)]
theorem szN_full {n s : Nat} (hs : s < 2 ^ n) : szN n s = n ↔ s = 2 ^ n - 1 := by
  unfold szN
  rw [ixs_full]
  constructor
  · intro h
    refine Nat.eq_of_testBit_eq fun i => ?_
    rw [Nat.testBit_two_pow_sub_one]
    by_cases hi : i < n
    · have := h (n - 1 - i) (by omega)
      unfold bitI at this
      rw [show n - 1 - (n - 1 - i) = i by omega] at this
      rw [this, decide_eq_true hi]
    · rw [decide_eq_false hi]; exact Nat.testBit_lt_two_pow (Nat.lt_of_lt_of_le hs (Nat.pow_le_pow_right (by decide) (by omega)))
  · intro h i hi
    unfold bitI
    rw [h, Nat.testBit_two_pow_sub_one]; simp; omega
/-- A row of Booleans of one's own. -/
structure BRow (lo n : Nat) (W : World) (g : Nat) (b : Nat → Bool) : Prop where
  lo : lo ≤ g
  hb : g < W.heap.size
  cell : ∀ j, j < n → W.cell? ⟨g, j, none⟩ = some (.bool (b j))
  fz : ∀ j, j < n → W.frozen? ⟨g, j, none⟩ = false
theorem BRow.set {lo n : Nat} {W : World} {g : Nat} {f f2 : Nat → Bool} (h : BRow lo n W g f) (j : Nat) (v : Bool) (hj : j < n) (e1 : f2 j = v) (e2 : ∀ l, l < n → l ≠ j → f2 l = f l) : BRow lo n (W.setCell ⟨g, j, none⟩ (.bool v)) g f2 :=
  ⟨h.lo, by simpa using h.hb, fun l hl => by
    by_cases e : l = j
    · subst e
      rw [e1]
      exact World.cell?_setCell_same' _ _ _ (by rw [h.cell l hl]; rfl)
    · rw [e2 l hl e, World.cell?_setCell_other _ _ _ _ (adr_ne (b := g) (i := j) (j := l) (fun q => e q.symm))]
      exact h.cell l hl, fun l hl => by simpa using h.fz l hl⟩
theorem BRow.on {lo n : Nat} {W W2 : World} {g : Nat} {b : Nat → Bool} (h : BRow lo n W g b) (hb : Below W.heap.size W W2) : BRow lo n W2 g b :=
  ⟨h.lo, Nat.lt_of_lt_of_le h.hb hb.size, fun j hj => (hb.cell (p := ⟨g, j, none⟩) h.hb).trans (h.cell j hj), fun j hj => by rw [World.frozen?_of_block (w := W) (a := ⟨g, j, none⟩) (hb.block g h.hb)]; exact h.fz j hj⟩
theorem BRow.made {W : World} {base g n : Nat} (h : W.ownsRow base 4 1 (.slice (some ⟨g, 0, none⟩) n n) n (madeCells (Value.bool false).cells (n * 1)).toList) (lo : Nat) (hl : lo ≤ g) : BRow lo n W g (fun _ => false) := by
  refine ⟨hl, (h.lt g rfl).2, fun j hj => ?_, fun j hj => own_frozen h rfl j⟩
  have := h.cells (g := g) rfl j (.bool false) (by
    rw [show (Value.bool false).cells = #[Value.bool false] by rfl, Nat.mul_one, toList_madeCells_one, List.getElem?_replicate, if_pos hj])
  rwa [show (⟨g, 0, none⟩ : Addr).add j = ⟨g, j, none⟩ by unfold Addr.add; split <;> simp_all] at this
/-- The indices that were met: the rows ahead, and the first k of this one. -/
def metA (n : Nat) (zss : List (List Int)) (i k : Nat) : Nat := metZ n zss i ||| setZ n (rowZ zss i) k
theorem metA_zero (n : Nat) (zss : List (List Int)) (i : Nat) : metA n zss i 0 = metZ n zss i := by unfold metA setZ; simp
theorem metA_succ {n : Nat} {zss : List (List Int)} {i k x : Nat} (hx : nth (rowZ zss i) k = (x : Int)) : metA n zss i (k + 1) = metA n zss i k ||| 2 ^ (n - 1 - x) := by
  unfold metA
  rw [setZ, hx, Int.toNat_natCast, Nat.or_assoc]
theorem metA_end (n : Nat) (zss : List (List Int)) (i : Nat) : metA n zss i (rowZ zss i).length = metZ n zss (i + 1) := rfl
def seenB (n s : Nat) : Nat → Bool := fun x => s.testBit (n - 1 - x)
theorem setZ_bit {n : Nat} {zs : List Int} {d : Nat} : ∀ {k : Nat}, (setZ n zs k).testBit d = true ↔ ∃ j, j < k ∧ n - 1 - (nth zs j).toNat = d
  | 0 => by simp [setZ]
  | k + 1 => by
    rw [setZ, Nat.testBit_or, Nat.testBit_two_pow, Bool.or_eq_true, setZ_bit, decide_eq_true_eq]
    constructor
    · rintro (⟨j, hj, e⟩ | e)
      · exact ⟨j, by omega, e⟩
      · exact ⟨k, by omega, e⟩
    · rintro ⟨j, hj, e⟩
      by_cases q : j = k
      · subst q; exact .inr e
      · exact .inl ⟨j, by omega, e⟩
/-- What holds while a row is read. -/
structure ChkI (n : Nat) (f : Nat → Int) (zss : List (List Int)) (i k : Nat) : Prop where
  pre : ChkP n f zss i
  up : UpP n (rowZ zss i) k
  dis : metZ n zss i &&& setZ n (rowZ zss i) k = 0
theorem and_or_zero {a b c : Nat} (h : a &&& b = 0) (hc : a &&& c = 0) : a &&& (b ||| c) = 0 := by
  refine Nat.eq_of_testBit_eq fun i => ?_
  have h1 : (a &&& b).testBit i = false := by rw [h]; simp
  have h2 : (a &&& c).testBit i = false := by rw [hc]; simp
  rw [Nat.testBit_and] at h1 h2
  rw [Nat.testBit_and, Nat.testBit_or, Nat.zero_testBit]
  cases ha : a.testBit i <;> simp_all
theorem ChkI.step {n : Nat} {f : Nat → Int} {zss : List (List Int)} {i k x : Nat} (h : ChkI n f zss i k) (hx : nth (rowZ zss i) k = (x : Int)) (hn : x < n) (hl : lastI (rowZ zss i) k < x) (hs : seenB n (metA n zss i k) x = false) : ChkI n f zss i (k + 1) where
  pre := h.pre
  up := h.up.succ (by rw [hx]; exact hl) (by rw [hx]; omega)
  dis := by
    rw [setZ, hx, Int.toNat_natCast]
    refine and_or_zero h.dis ?_
    unfold seenB metA at hs
    rw [Nat.testBit_or, Bool.or_eq_false_iff] at hs
    refine Nat.eq_of_testBit_eq fun d => ?_
    rw [Nat.testBit_and, Nat.testBit_two_pow, Nat.zero_testBit]
    by_cases e : n - 1 - x = d
    · rw [← e, hs.1]; rfl
    · rw [decide_eq_false e, Bool.and_false]
theorem ChkI.seen {n : Nat} {f : Nat → Int} {zss : List (List Int)} {i k x : Nat} (h : ChkI n f zss i k) (hi : i < zss.length) (hk : k < (rowZ zss i).length) (hx : nth (rowZ zss i) k = (x : Int)) (hn : x < n) (hs : seenB n (metA n zss i k) x = true) : ¬ ChkS n f zss := fun c => by
  obtain ⟨⟨hu, _, _⟩, _, hd⟩ := c.1 i hi
  unfold seenB metA at hs
  rw [Nat.testBit_or, Bool.or_eq_true] at hs
  rcases hs with hs | hs
  · have h1 : (stZ n zss i).testBit (n - 1 - x) = true := setZ_bit.2 ⟨k, hk, by rw [hx]; rfl⟩
    have h2 : (metZ n zss i &&& stZ n zss i).testBit (n - 1 - x) = true := by rw [Nat.testBit_and, hs, h1]; rfl
    rw [hd] at h2; simp at h2
  · obtain ⟨j, hj, e⟩ := setZ_bit.1 hs
    have hlt : ∀ a b, a < b → b ≤ k → nth (rowZ zss i) a < nth (rowZ zss i) b := fun a b hab => by
      induction b with
      | zero => omega
      | succ b ih =>
        intro hb
        have := (hu (b + 1) (by omega)).1
        rw [lastI_succ] at this
        rcases Nat.lt_or_ge a b with q | q
        · have := ih q (by omega); omega
        · rw [show a = b by omega]; exact this
    have a := hlt j k hj (Nat.le_refl _)
    have g := UpP.ge hu j (by omega)
    rw [hx] at a
    omega
theorem ChkI.last {n : Nat} {f : Nat → Int} {zss : List (List Int)} {i k x : Nat} (h : ChkI n f zss i (k + 1)) (hp : nth (rowZ zss i) k ≤ (x : Int)) (hs : seenB n (metA n zss i (k + 1)) x = false) : lastI (rowZ zss i) (k + 1) < x := by
  rw [lastI_succ]
  by_cases e : nth (rowZ zss i) k = (x : Int)
  · exfalso
    have h1 : (setZ n (rowZ zss i) (k + 1)).testBit (n - 1 - x) = true := setZ_bit.2 ⟨k, by omega, by rw [e]; rfl⟩
    unfold seenB metA at hs
    rw [Nat.testBit_or, h1, Bool.or_true] at hs
    cases hs
  · omega
structure RcaR (pg po m pc i qg qo N1 qc2 rg ro N0 rc im : Nat) (s x y : Int) (bl b2 : Bool) (Wc : World) (L : Nat → Bool) (v : Nat → Value) (W : World) : Prop where
  st : Below Wc.heap.size Wc W
  w1 : Had L 1 (∀ j ∈ [0], L j = true)
  w2 : Had L 2 (∀ j ∈ [1], L j = true)
  w3 : Had L 3 (∀ j ∈ [2], L j = true)
  w4 : Had L 4 (∀ j ∈ [2, 3], L j = true)
  w5 : Had L 5 (∀ j ∈ [2, 4], L j = true)
  w6 : Had L 6 (∀ j ∈ [5], L j = true)
  w7 : Had L 7 (∀ j ∈ [5], L j = true)
  w8 : Had L 8 (∀ j ∈ [5, 6, 7], L j = true)
  w9 : Had L 9 (∀ j ∈ [5, 8], L j = true)
  w10 : Had L 10 (∀ j ∈ [5, 9], L j = true)
  w11 : Had L 11 (∀ j ∈ [5, 10], L j = true)
  w12 : Had L 12 (∀ j ∈ [5], L j = true)
  w13 : Had L 13 (∀ j ∈ [5], L j = true)
  w14 : Had L 14 (∀ j ∈ [5, 13], L j = true)
  w15 : Had L 15 (∀ j ∈ [5, 12, 14], L j = true)
  w16 : Had L 16 (∀ j ∈ [5, 15], L j = true)
  w17 : Had L 17 (∀ j ∈ [5, 16], L j = true)
  w18 : Had L 18 (∀ j ∈ [5, 17], L j = true)
  w19 : Had L 19 (∀ j ∈ [5, 11, 18], L j = true)
  w20 : Had L 20 (∀ j ∈ [2, 5, 19], L j = true)
  w21 : Had L 21 (∀ j ∈ [2, 20], L j = true)
  f0 : Had L 0 (v 83 = .int .i64 s)
  f1 : Had L 1 (v 84 = .bool true)
  f2 : Had L 2 (v 85 = .bool true)
  f3 : Had L 3 (v 86 = undef)
  f4 : Had L 4 (v 87 = undef)
  f5 : Had L 5 (v 88 = undef)
  f6 : Had L 6 (v 89 = undef)
  f7 : Had L 7 (v 90 = undef)
  f8 : Had L 8 (v 91 = undef)
  f9 : Had L 9 (v 92 = undef)
  f10 : Had L 10 (v 93 = undef)
  f11 : Had L 11 (v 94 = undef)
  f12 : Had L 12 (v 95 = undef)
  f13 : Had L 13 (v 96 = undef)
  f14 : Had L 14 (v 97 = undef)
  f15 : Had L 15 (v 98 = undef)
  f16 : Had L 16 (v 99 = undef)
  f17 : Had L 17 (v 100 = undef)
  f18 : Had L 18 (v 101 = undef)
  f19 : Had L 19 (v 102 = undef)
  f20 : Had L 20 (v 103 = undef)
  f21 : Had L 21 (v 104 = .bool true)
structure RcbR (pg po m pc i qg qo N1 qc2 rg ro N0 rc im : Nat) (s x y : Int) (bl b2 : Bool) (Wc : World) (L : Nat → Bool) (v : Nat → Value) (W : World) : Prop where
  st : Below Wc.heap.size Wc W
  w1 : Had L 1 (∀ j ∈ [0], L j = true)
  w2 : Had L 2 (∀ j ∈ [1], L j = true)
  w3 : Had L 3 (∀ j ∈ [2], L j = true)
  w4 : Had L 4 (∀ j ∈ [2, 3], L j = true)
  w5 : Had L 5 (∀ j ∈ [2, 4], L j = true)
  w6 : Had L 6 (∀ j ∈ [5], L j = true)
  w7 : Had L 7 (∀ j ∈ [5], L j = true)
  w8 : Had L 8 (∀ j ∈ [5, 6, 7], L j = true)
  w9 : Had L 9 (∀ j ∈ [5, 8], L j = true)
  w10 : Had L 10 (∀ j ∈ [5, 9], L j = true)
  w11 : Had L 11 (∀ j ∈ [5, 10], L j = true)
  w12 : Had L 12 (∀ j ∈ [5], L j = true)
  w13 : Had L 13 (∀ j ∈ [5], L j = true)
  w14 : Had L 14 (∀ j ∈ [5, 13], L j = true)
  w15 : Had L 15 (∀ j ∈ [5, 12, 14], L j = true)
  w16 : Had L 16 (∀ j ∈ [5, 15], L j = true)
  w17 : Had L 17 (∀ j ∈ [5, 16], L j = true)
  w18 : Had L 18 (∀ j ∈ [5, 17], L j = true)
  w19 : Had L 19 (∀ j ∈ [5, 11, 18], L j = true)
  w20 : Had L 20 (∀ j ∈ [2, 5, 19], L j = true)
  w21 : Had L 21 (∀ j ∈ [2, 20], L j = true)
  f0 : Had L 0 (v 83 = .int .i64 s)
  f1 : Had L 1 (v 84 = .bool false)
  f2 : Had L 2 (v 85 = .bool false)
  f3 : Had L 3 (v 86 = .int .i64 (i : Int))
  f4 : Had L 4 (v 87 = .bool false)
  f5 : Had L 5 (v 88 = .bool false)
  f6 : Had L 6 (v 89 = undef)
  f7 : Had L 7 (v 90 = undef)
  f8 : Had L 8 (v 91 = undef)
  f9 : Had L 9 (v 92 = undef)
  f10 : Had L 10 (v 93 = undef)
  f11 : Had L 11 (v 94 = undef)
  f12 : Had L 12 (v 95 = undef)
  f13 : Had L 13 (v 96 = undef)
  f14 : Had L 14 (v 97 = undef)
  f15 : Had L 15 (v 98 = undef)
  f16 : Had L 16 (v 99 = undef)
  f17 : Had L 17 (v 100 = undef)
  f18 : Had L 18 (v 101 = undef)
  f19 : Had L 19 (v 102 = undef)
  f20 : Had L 20 (v 103 = .bool false)
  f21 : Had L 21 (v 104 = .bool false)
structure RccR (pg po m pc i qg qo N1 qc2 rg ro N0 rc im : Nat) (s x y : Int) (bl b2 : Bool) (Wc : World) (L : Nat → Bool) (v : Nat → Value) (W : World) : Prop where
  st : Below Wc.heap.size Wc W
  w1 : Had L 1 (∀ j ∈ [0], L j = true)
  w2 : Had L 2 (∀ j ∈ [1], L j = true)
  w3 : Had L 3 (∀ j ∈ [2], L j = true)
  w4 : Had L 4 (∀ j ∈ [2, 3], L j = true)
  w5 : Had L 5 (∀ j ∈ [2, 4], L j = true)
  w6 : Had L 6 (∀ j ∈ [5], L j = true)
  w7 : Had L 7 (∀ j ∈ [5], L j = true)
  w8 : Had L 8 (∀ j ∈ [5, 6, 7], L j = true)
  w9 : Had L 9 (∀ j ∈ [5, 8], L j = true)
  w10 : Had L 10 (∀ j ∈ [5, 9], L j = true)
  w11 : Had L 11 (∀ j ∈ [5, 10], L j = true)
  w12 : Had L 12 (∀ j ∈ [5], L j = true)
  w13 : Had L 13 (∀ j ∈ [5], L j = true)
  w14 : Had L 14 (∀ j ∈ [5, 13], L j = true)
  w15 : Had L 15 (∀ j ∈ [5, 12, 14], L j = true)
  w16 : Had L 16 (∀ j ∈ [5, 15], L j = true)
  w17 : Had L 17 (∀ j ∈ [5, 16], L j = true)
  w18 : Had L 18 (∀ j ∈ [5, 17], L j = true)
  w19 : Had L 19 (∀ j ∈ [5, 11, 18], L j = true)
  w20 : Had L 20 (∀ j ∈ [2, 5, 19], L j = true)
  w21 : Had L 21 (∀ j ∈ [2, 20], L j = true)
  f0 : Had L 0 (v 83 = .int .i64 s)
  f1 : Had L 1 (v 84 = .bool false)
  f2 : Had L 2 (v 85 = .bool false)
  f3 : Had L 3 (v 86 = .int .i64 (i : Int))
  f4 : Had L 4 (v 87 = .bool true)
  f5 : Had L 5 (v 88 = .bool true)
  f6 : Had L 6 (v 89 = .slice (some ⟨pg, po, none⟩) (m) (pc))
  f7 : Had L 7 (v 90 = .int .i64 (i : Int))
  f8 : Had L 8 (v 91 = .pointer (some ⟨pg, po + i, none⟩))
  f9 : Had L 9 (v 92 = .slice (some ⟨qg, qo, none⟩) (N1) (qc2))
  f10 : Had L 10 (v 93 = .pointer (some ⟨qg, qo, none⟩))
  f11 : Had L 11 (v 94 = .int .i64 x)
  f12 : Had L 12 (v 95 = .slice (some ⟨pg, po, none⟩) (m) (pc))
  f13 : Had L 13 (v 96 = .int .i64 (i : Int))
  f14 : Had L 14 (v 97 = .int .i64 (im : Int))
  f15 : Had L 15 (v 98 = .pointer (some ⟨pg, po + im, none⟩))
  f16 : Had L 16 (v 99 = .slice (some ⟨rg, ro, none⟩) (N0) (rc))
  f17 : Had L 17 (v 100 = .pointer (some ⟨rg, ro, none⟩))
  f18 : Had L 18 (v 101 = .int .i64 y)
  f19 : Had L 19 (v 102 = .bool bl)
  f20 : Had L 20 (v 103 = .bool bl)
  f21 : Had L 21 (v 104 = .bool bl)
set_option maxRecDepth 100000 in
set_option maxHeartbeats 32000000 in
theorem rChk_any (ra : Option Addr) (n c : Nat) (f : Nat → Int) (pa : Option Addr) (pc : Nat) (zss : List (List Int)) (w : World) (hr : IRow w ra n f) (hn : n ≤ 16) (hf : ∀ i, i < n → -1125899906842624 ≤ f i ∧ f i ≤ 1125899906842624) (hz : LZ w pa zss) (hm : zss.length ≤ 4096) (hzl : ∀ j, (rowZ zss j).length ≤ 4096) :
    Calls Tryd.prog 14 #[.slice ra n c, .slice pa zss.length pc] w fun e w' => Below w.heap.size w w' ∧ e = .returned (.bool (decide (ChkS n f zss))) := by
  obtain ⟨i0, hi0, hz0, hz1, hz2⟩ := info_parts (show (Tryd.prog.info? 4).map (fun i => (i.zero, i.size, i.bytes)) = some (some (Value.bool false), 1, 1) by kernel_rfl)
  have HR := Lib.hid hr
  have HZ := Lib.hid (fun W (h : Below w.heap.size w W) => hz.on h)
  have HF := Lib.hid (fun zs i (h : UpP n zs i) => sumZ_bd (f := f) hf i h)
  have HL := Lib.hid hzl
  clear hr hz hf hzl
  go_enter Tryd.func14, Tryd.ntmps14
  go_upto_region 2 with (refine wpList_make_full _ rfl _ _ 55 rfl w.heap.size 4 i0 (.bool false) 1 Tryd.underlying55 hi0 hz0 hz1 _ _ _ _ n rfl rfl rfl rfl (by rw [hz2]; omega) (by unfold maxLen; omega) (Nat.le_refl _) ?_; intro w6 ho hg)
  have hb6 : Below w.heap.size w w6 := ⟨hg.os, hg.tape, hg.output, hg.size, fun k hk => hg.block k hk (by simp)⟩
  obtain ⟨g, hsb⟩ : ∃ x, x = w.heap.size := ⟨_, rfl⟩
  have N0 := BRow.made (lo := w.heap.size) ho (Nat.le_refl _)
  rw [← hsb] at N0
  rw [← hsb]
  have S0 : Hid (Below w.heap.size w w6 ∧ BRow w.heap.size n w6 g (seenB n (metZ n zss 0)) ∧ ChkP n f zss 0) := ⟨hb6, by
    have e : seenB n (metZ n zss 0) = fun _ => false := by funext x; unfold seenB metZ; simp
    rw [e, ← hsb]; exact N0, fun j h => by omega⟩
  clear hi0 hz0 hz1 hz2 ho hg hb6 N0 hsb
  go_wp2_with fail
  go_loopg [7, 6] zss.length (fun g' s7 s6 wx => ∃ i : Nat, s7 = .int .i64 i ∧ s6 = .int .i64 (szN n (metZ n zss i) : Nat) ∧ g' = zss.length - i ∧ i ≤ zss.length ∧ Hid (Below w.heap.size w wx ∧ BRow w.heap.size n wx g (seenB n (metZ n zss i)) ∧ ChkP n f zss i))
  case atStart => exact ⟨0, rfl, by rw [metZ, szN_zero]; rfl, rfl, Nat.zero_le _, S0⟩
  case round =>
    clear S0
    obtain ⟨i, rfl, rfl, rfl, hi, S⟩ := hrel
    rename World => W1
    by_cases hlt : i < zss.length
    · have wi : IntKind.i64.wrap ((i : Int) + 1) = ((i + 1 : Nat) : Int) := by rw [IntWalk.i64_in _ (by omega)]; omega
      have li : (i : Int) < (zss.length : Int) := by omega
      obtain ⟨pg, po, rfl, hpl, hpc⟩ := HZ.out W1 S.out.1 (by omega)
      obtain ⟨qa, qc, p1, hq⟩ := hpc i hlt
      have HP := Lib.hid (fun W (h : Below W1.heap.size W1 W) => (h.cell (p := ⟨pg, po + i, none⟩) hpl).trans p1)
      have HQ := Lib.hid hq
      have hN1 := HL.out i
      clear hpc hq
      by_cases h0 : (rowZ zss i).length = 0
      · have q0 : (((rowZ zss i).length : Int) == 0) = true := by simp [h0]
        have hb : decide (ChkS n f zss) = false := decide_eq_false (fun h => by have := (h.1 i hlt).1.2.1; omega)
        have HB := Lib.hid S.out.1
        generalize szN n (metZ n zss i) = u at *
        generalize (rowZ zss i).length = N1 at *
        clear S HP HQ h0
        go_wp2_with fail
        go_ret
        exact ⟨HB.out, by (first | rfl | (rw [hb]; rfl) | rw [hb])⟩
      · have q0 : (((rowZ zss i).length : Int) == 0) = false := beq_false_of_ne (by omega)
        have T0 : Hid (Below W1.heap.size W1 W1 ∨ True) := .inr trivial
        have S1 : Hid (Below w.heap.size w W1 ∧ BRow w.heap.size n W1 g (seenB n (metA n zss i 0)) ∧ ChkI n f zss i 0) := ⟨S.out.1, by rw [metA_zero]; exact S.out.2.1, ⟨S.out.2.2, fun j h => absurd h (Nat.not_lt_zero j), by unfold setZ; simp⟩⟩
        have hm0 : szN n (metZ n zss i) = szN n (metA n zss i 0) := by rw [metA_zero]
        rw [hm0]
        obtain ⟨N1, hN⟩ : ∃ N1, (rowZ zss i).length = N1 := ⟨_, rfl⟩
        rw [hN] at p1 q0 h0 hN1 HP
        have HN := Lib.hid hN
        clear S hm0 T0
        go_wp2_with fail
        go_loopg [9, 8, 6] N1 (fun g' s9 s8 s6 wx => ∃ k : Nat, s9 = .int .i64 k ∧ s8 = .int .i64 (sumZ f (rowZ zss i) k) ∧ s6 = .int .i64 (szN n (metA n zss i k) : Nat) ∧ g' = N1 - k ∧ k ≤ N1 ∧ Hid (Below w.heap.size w wx ∧ BRow w.heap.size n wx g (seenB n (metA n zss i k)) ∧ ChkI n f zss i k))
        case atStart => exact ⟨0, rfl, rfl, rfl, rfl, Nat.zero_le _, S1⟩
        case round =>
          clear S1
          obtain ⟨k, rfl, rfl, rfl, rfl, hk, T⟩ := hrel
          rename World => W2
          have HB := Lib.hid T.out.1
          obtain ⟨pg', po', ep, hpl2, hpc2⟩ := HZ.out W2 HB.out (by omega)
          injection ep with ep
          injection ep with ep1 ep2
          subst ep1; subst ep2
          obtain ⟨qa2, qc2, p2, hq2⟩ := hpc2 i hlt
          rw [HN.out] at p2
          have HQ2 := Lib.hid hq2
          have hNr := HN.out
          clear hpc2 hq2 p1 HQ HP
          by_cases hkl : k < N1
          · have wk : IntKind.i64.wrap ((k : Int) + 1) = ((k + 1 : Nat) : Int) := by rw [IntWalk.i64_in _ (by omega)]; omega
            have lk : (k : Int) < (N1 : Int) := by omega
            obtain ⟨qg, qo, rfl, _, hqc⟩ := HQ2.out (by omega)
            have HC := Lib.hid hqc
            have p3 := hqc k (by omega)
            clear hqc
            have HU := Lib.hid (fun (h : ChkS n f zss) => (show UpP n (rowZ zss i) N1 from by rw [← hNr]; exact (h.1 i hlt).1.1))
            by_cases hx0 : nth (rowZ zss i) k < 0
            · have q1 : decide (nth (rowZ zss i) k < 0) = true := decide_eq_true hx0
              have hb : decide (ChkS n f zss) = false := decide_eq_false (fun h => by have := (HU.out h).ge k hkl; omega)
              generalize sumZ f (rowZ zss i) k = u1 at *
              generalize szN n (metA n zss i k) = u2 at *
              generalize nth (rowZ zss i) k = y at *
              clear T HF HC HQ2 HZ HL HU HR hNr HN
              go_wp2_with fail
              go_ret
              exact ⟨HB.out, by (first | rfl | (rw [hb]; rfl) | rw [hb])⟩
            have q1 : decide (nth (rowZ zss i) k < 0) = false := decide_eq_false hx0
            by_cases hxn : nth (rowZ zss i) k < n
            case neg =>
              have q2 : nth (rowZ zss i) k ≥ (n : Int) := by omega
              have hb : decide (ChkS n f zss) = false := decide_eq_false (fun h => by have := ((HU.out h) k hkl).2; omega)
              generalize sumZ f (rowZ zss i) k = u1 at *
              generalize szN n (metA n zss i k) = u2 at *
              generalize nth (rowZ zss i) k = y at *
              clear T HF HC HQ2 HZ HL HU HR hNr HN
              go_wp2_with fail
              go_ret
              exact ⟨HB.out, by (first | rfl | (rw [hb]; rfl) | rw [hb])⟩
            obtain ⟨x, hx⟩ : ∃ x : Nat, nth (rowZ zss i) k = (x : Int) := ⟨(nth (rowZ zss i) k).toNat, by omega⟩
            have hxn2 : x < n := by omega
            have q2 : ¬ (x : Int) ≥ (n : Int) := by omega
            have q3 : (x : Int) < (n : Int) := by omega
            rw [hx] at p3 q1
            have p4 := T.out.2.1.cell x hxn2
            have HX := Lib.hid hx
            clear hx hx0 hxn
            cases hse : seenB n (metA n zss i k) x with
            | true =>
              rw [hse] at p4
              have hb : decide (ChkS n f zss) = false := decide_eq_false (T.out.2.2.seen hlt (by omega) HX.out hxn2 hse)
              generalize sumZ f (rowZ zss i) k = u1 at *
              generalize szN n (metA n zss i k) = u2 at *
              generalize nth (rowZ zss i) k = y at *
              clear T HF HC HQ2 HZ HL HU HR hNr HN
              go_wp2_with fail
              go_ret
              exact ⟨HB.out, by (first | rfl | (rw [hb]; rfl) | rw [hb])⟩
            | false =>
              rw [hse] at p4
              have hse2 := Lib.hid hse
              have BR := Lib.hid T.out.2.1
              by_cases hk0 : k = 0
              · subst hk0
                have p30 := p3
                rw [Nat.add_zero] at p30
                have kz : ¬ ((0 : Nat) : Int) > 0 := by omega
                have kz1 : ¬ (0 : Int) > 0 := by omega
                have T2 := Lib.hid (T.out.2.2.step HX.out hxn2 (by rw [lastI_zero]; omega) hse)
                have hsm : sumZ f (rowZ zss i) (0 + 1) = sumZ f (rowZ zss i) (0) + f x := by rw [sumZ_succ, HX.out]; rfl
                have hsz : szN n (metA n zss i (0 + 1)) = szN n (metA n zss i (0)) + 1 := by
                  rw [metA_succ HX.out]
                  exact szN_add hxn2 hse
                have ws : IntKind.i64.wrap (sumZ f (rowZ zss i) (0) + f x) = sumZ f (rowZ zss i) (0 + 1) := by
                  rw [← hsm]
                  have b := HF.out _ _ T2.out.up
                  have := T2.out.up.le
                  exact IntWalk.i64_in _ (by omega)
                have wz : IntKind.i64.wrap (((szN n (metA n zss i (0)) : Nat) : Int) + 1) = ((szN n (metA n zss i (0 + 1)) : Nat) : Int) := by
                  rw [hsz]
                  have : szN n (metA n zss i (0)) ≤ n := by unfold szN ixs; exact Nat.le_trans (List.length_filter_le _ _) (by simp)
                  rw [IntWalk.i64_in _ (by omega)]; omega
                have BR2 := Lib.hid (BR.out.set x true hxn2 (f2 := seenB n (metA n zss i (0 + 1))) (by rw [metA_succ HX.out]; unfold seenB; rw [Nat.testBit_or, Nat.testBit_two_pow]; simp) (fun l hl hne => by
                  rw [metA_succ HX.out]; unfold seenB; rw [Nat.testBit_or, Nat.testBit_two_pow, decide_eq_false (by omega), Bool.or_false]))
                have HB2 := Lib.hid (HB.out.setCell (p := ⟨g, x, none⟩) BR.out.lo (.bool true))
                obtain ⟨rg, ro, rfl, hrl, hrc⟩ := HR.out (by omega)
                have p6 := (HB2.out.cell (p := ⟨rg, ro + x, none⟩) hrl).trans (hrc x hxn2)
                have z4 := BR.out.fz x hxn2
                generalize f x = fx at *
                generalize hu1 : sumZ f (rowZ zss i) (0 + 1) = u1' at *
                generalize hu2 : szN n (metA n zss i (0 + 1)) = u2' at *
                generalize sumZ f (rowZ zss i) (0) = u1 at *
                generalize szN n (metA n zss i (0)) = u2 at *
                clear T HF HC HQ2 HL HU hNr hse hse2 hrc hsm hsz
                go_wp2_with fail
                go_roundg (N1 - (0 + 1))
                case measure => omega
                case rel => exact ⟨0 + 1, rfl, by rw [hu1], by rw [hu2], rfl, by omega, HB2.out, BR2.out, T2.out⟩
              · obtain ⟨km, rfl⟩ : ∃ km, k = km + 1 := ⟨k - 1, by omega⟩
                have kp : ((km + 1 : Nat) : Int) > 0 := by omega
                have wkm : IntKind.i64.wrap (((km + 1 : Nat) : Int) - 1) = (km : Int) := by rw [IntWalk.i64_in _ (by omega)]; omega
                have lkm : (km : Int) < (N1 : Int) := by omega
                have p5 := HC.out km (by omega)
                by_cases hord : (x : Int) < nth (rowZ zss i) km
                · have q5 : decide ((x : Int) < nth (rowZ zss i) km) = true := decide_eq_true hord
                  have hb : decide (ChkS n f zss) = false := decide_eq_false (fun h => by
                    have := ((HU.out h) (km + 1) hkl).1
                    rw [lastI_succ, HX.out] at this
                    omega)
                  generalize sumZ f (rowZ zss i) (km + 1) = u1 at *
                  generalize szN n (metA n zss i (km + 1)) = u2 at *
                  generalize nth (rowZ zss i) km = y at *
                  clear T HF HC HQ2 HZ HL HU HR hNr HN hse BR hord
                  go_wp2_with fail
                  go_ret
                  exact ⟨HB.out, by (first | rfl | (rw [hb]; rfl) | rw [hb])⟩
                · have q5 : decide ((x : Int) < nth (rowZ zss i) km) = false := decide_eq_false hord
                  have T2 := Lib.hid (T.out.2.2.step HX.out hxn2 (T.out.2.2.last (by omega) hse) hse)
                  have hsm : sumZ f (rowZ zss i) (km + 1 + 1) = sumZ f (rowZ zss i) (km + 1) + f x := by rw [sumZ_succ, HX.out]; rfl
                  have hsz : szN n (metA n zss i (km + 1 + 1)) = szN n (metA n zss i (km + 1)) + 1 := by
                    rw [metA_succ HX.out]
                    exact szN_add hxn2 hse
                  have ws : IntKind.i64.wrap (sumZ f (rowZ zss i) (km + 1) + f x) = sumZ f (rowZ zss i) (km + 1 + 1) := by
                    rw [← hsm]
                    have b := HF.out _ _ T2.out.up
                    have := T2.out.up.le
                    exact IntWalk.i64_in _ (by omega)
                  have wz : IntKind.i64.wrap (((szN n (metA n zss i (km + 1)) : Nat) : Int) + 1) = ((szN n (metA n zss i (km + 1 + 1)) : Nat) : Int) := by
                    rw [hsz]
                    have : szN n (metA n zss i (km + 1)) ≤ n := by unfold szN ixs; exact Nat.le_trans (List.length_filter_le _ _) (by simp)
                    rw [IntWalk.i64_in _ (by omega)]; omega
                  have BR2 := Lib.hid (BR.out.set x true hxn2 (f2 := seenB n (metA n zss i (km + 1 + 1))) (by rw [metA_succ HX.out]; unfold seenB; rw [Nat.testBit_or, Nat.testBit_two_pow]; simp) (fun l hl hne => by
                    rw [metA_succ HX.out]; unfold seenB; rw [Nat.testBit_or, Nat.testBit_two_pow, decide_eq_false (by omega), Bool.or_false]))
                  have HB2 := Lib.hid (HB.out.setCell (p := ⟨g, x, none⟩) BR.out.lo (.bool true))
                  obtain ⟨rg, ro, rfl, hrl, hrc⟩ := HR.out (by omega)
                  have p6 := (HB2.out.cell (p := ⟨rg, ro + x, none⟩) hrl).trans (hrc x hxn2)
                  have z4 := BR.out.fz x hxn2
                  generalize f x = fx at *
                  generalize hu1 : sumZ f (rowZ zss i) (km + 1 + 1) = u1' at *
                  generalize hu2 : szN n (metA n zss i (km + 1 + 1)) = u2' at *
                  generalize sumZ f (rowZ zss i) (km + 1) = u1 at *
                  generalize szN n (metA n zss i (km + 1)) = u2 at *
                  clear T HF HC HQ2 HL HU hNr hse hse2 hrc hsm hsz
                  go_wp2_with fail
                  go_roundg (N1 - (km + 1 + 1))
                  case measure => omega
                  case rel => exact ⟨km + 1 + 1, rfl, by rw [hu1], by rw [hu2], rfl, by omega, HB2.out, BR2.out, T2.out⟩
          · have lk : ¬ (k : Int) < (N1 : Int) := by omega
            have ek : k = (rowZ zss i).length := by omega
            have eA : szN n (metA n zss i k) = szN n (metZ n zss (i + 1)) := by rw [ek, metA_end]
            have BR : Hid (BRow w.heap.size n W2 g (seenB n (metZ n zss (i + 1)))) := by
              have := T.out.2.1
              rw [ek, metA_end] at this
              exact this
            have TI := Lib.hid T.out.2.2
            rw [eA]
            clear T eA
            obtain ⟨qg, qo, rfl, hqg, hqc⟩ := HQ2.out (by omega)
            have LQ := Lib.hid (And.intro p2 hpl2)
            have p0 := hqc 0 (by omega)
            rw [Nat.add_zero] at p0
            have LX := Lib.hid (And.intro p0 hqg)
            have hup := TI.out.up
            rw [ek] at hup TI
            have hsum : sumZ f (rowZ zss i) k = sumZ f (rowZ zss i) (rowZ zss i).length := by rw [ek]
            by_cases hs0 : sumZ f (rowZ zss i) k = 0
            · have hbal : Bal n f (rowZ zss i) := ⟨hup, by omega, by rw [← hsum]; exact hs0⟩
              rw [hs0]
              by_cases hi0 : i = 0
              · have ip : ¬ (i : Int) > 0 := by omega
                have ip1 : ¬ 0 < i := by omega
                have ip2 : decide (0 < i) = false := decide_eq_false (by omega)
                have ip3 : decide ((0 : Int) < (i : Int)) = false := decide_eq_false (by omega)
                have T3 : Hid (ChkP n f zss (i + 1)) := TI.out.pre.succ hbal (by
                  have := hup.ge 0 (by omega)
                  unfold leastI; rw [if_pos hi0]; omega) TI.out.dis
                generalize hU2 : szN n (metZ n zss (i + 1)) = u2 at *
                have HU2 := Lib.hid hU2
                clear HQ2 hqc hbal hs0 hsum ek hNr hup TI hi0 p0 hU2
                go_upto_region 18 with fail
                refine wp_region_each (fun L A W => ∃ (v : Nat → Value), A = ⟨#[_, _, _, _, _, _, _, _, _, _, _, _, _, _, _, _, _, _, _, _, _, _, _, _, _, _, _, _, _, _, _, _, _, _, _, _, _, _, _, _, _, _, _, _, _, _, _, _, _, _, _, _, _, _, _, _, _, _, _, _, _, _, _, _, _, _, _, _, _, _, _, _, _, _, _, _, _, _, _, _, _, _, _, v 83, v 84, v 85, v 86, v 87, v 88, v 89, v 90, v 91, v 92, v 93, v 94, v 95, v 96, v 97, v 98, v 99, v 100, v 101, v 102, v 103, v 104, _, _, _, _], []⟩ ∧ RcbR pg po zss.length pc i 0 0 0 0 0 0 0 0 0 0 0 0 true true W2 L v W) (by kernel_rfl) (by kernel_rfl) ⟨fun jz => if jz = 83 then u83 else if jz = 84 then u84 else if jz = 85 then u85 else if jz = 86 then u86 else if jz = 87 then u87 else if jz = 88 then u88 else if jz = 89 then u89 else if jz = 90 then u90 else if jz = 91 then u91 else if jz = 92 then u92 else if jz = 93 then u93 else if jz = 94 then u94 else if jz = 95 then u95 else if jz = 96 then u96 else if jz = 97 then u97 else if jz = 98 then u98 else if jz = 99 then u99 else if jz = 100 then u100 else if jz = 101 then u101 else if jz = 102 then u102 else if jz = 103 then u103 else if jz = 104 then u104 else undef, rfl, ⟨Below.drew (Below.refl _ _), Had.none, Had.none, Had.none, Had.none, Had.none, Had.none, Had.none, Had.none, Had.none, Had.none, Had.none, Had.none, Had.none, Had.none, Had.none, Had.none, Had.none, Had.none, Had.none, Had.none, Had.none, Had.none, Had.none, Had.none, Had.none, Had.none, Had.none, Had.none, Had.none, Had.none, Had.none, Had.none, Had.none, Had.none, Had.none, Had.none, Had.none, Had.none, Had.none, Had.none, Had.none, Had.none, Had.none⟩⟩ (rs := [0, 1, 2, 3, 4, 5, 6, 7, 8, 9, 10, 11, 12, 13, 14, 15, 16, 17, 18, 19, 20, 21]) (by kernel_rfl) ?_ ?_
                · refine EachOf.cons [] rfl (by kernel_rfl) ?_ ?_
                  · rintro L A W ⟨v, rfl, hR⟩ hi hw K hK
                    go_simp
                    refine hK.out _ _ ?_
                    exact ⟨(fun jz => if jz = 83 then .int .i64 0 else v jz), rfl, ⟨hR.st, hR.w1.o, hR.w2.o, hR.w3.o, hR.w4.o, hR.w5.o, hR.w6.o, hR.w7.o, hR.w8.o, hR.w9.o, hR.w10.o, hR.w11.o, hR.w12.o, hR.w13.o, hR.w14.o, hR.w15.o, hR.w16.o, hR.w17.o, hR.w18.o, hR.w19.o, hR.w20.o, hR.w21.o, (fun _ => rfl), hR.f1.k, hR.f2.k, hR.f3.k, hR.f4.k, hR.f5.k, hR.f6.k, hR.f7.k, hR.f8.k, hR.f9.k, hR.f10.k, hR.f11.k, hR.f12.k, hR.f13.k, hR.f14.k, hR.f15.k, hR.f16.k, hR.f17.k, hR.f18.k, hR.f19.k, hR.f20.k, hR.f21.k⟩⟩
                  refine EachOf.cons [0] rfl (by kernel_rfl) ?_ ?_
                  · rintro L A W ⟨v, rfl, hR⟩ hi hw K hK
                    have e0 := hR.f0 (hw 0 (by simp))
                    simp only [e0]
                    clear e0
                    go_simp
                    refine hK.out _ _ ?_
                    exact ⟨(fun jz => if jz = 83 then .int .i64 0 else if jz = 84 then .bool false else v jz), rfl, ⟨hR.st, (fun _ j hj => upd_on (hw j hj)), hR.w2.o, hR.w3.o, hR.w4.o, hR.w5.o, hR.w6.o, hR.w7.o, hR.w8.o, hR.w9.o, hR.w10.o, hR.w11.o, hR.w12.o, hR.w13.o, hR.w14.o, hR.w15.o, hR.w16.o, hR.w17.o, hR.w18.o, hR.w19.o, hR.w20.o, hR.w21.o, (fun _ => rfl), (fun _ => rfl), hR.f2.k, hR.f3.k, hR.f4.k, hR.f5.k, hR.f6.k, hR.f7.k, hR.f8.k, hR.f9.k, hR.f10.k, hR.f11.k, hR.f12.k, hR.f13.k, hR.f14.k, hR.f15.k, hR.f16.k, hR.f17.k, hR.f18.k, hR.f19.k, hR.f20.k, hR.f21.k⟩⟩
                  refine EachOf.cons [1] rfl (by kernel_rfl) ?_ ?_
                  · rintro L A W ⟨v, rfl, hR⟩ hi hw K hK
                    have e1 := hR.f1 (hw 1 (by simp))
                    simp only [e1]
                    clear e1
                    go_simp
                    refine hK.out _ _ ?_
                    exact ⟨(fun jz => if jz = 84 then .bool false else if jz = 85 then .bool false else v jz), rfl, ⟨hR.st, hR.w1.o, (fun _ j hj => upd_on (hw j hj)), hR.w3.o, hR.w4.o, hR.w5.o, hR.w6.o, hR.w7.o, hR.w8.o, hR.w9.o, hR.w10.o, hR.w11.o, hR.w12.o, hR.w13.o, hR.w14.o, hR.w15.o, hR.w16.o, hR.w17.o, hR.w18.o, hR.w19.o, hR.w20.o, hR.w21.o, hR.f0.k, (fun _ => rfl), (fun _ => rfl), hR.f3.k, hR.f4.k, hR.f5.k, hR.f6.k, hR.f7.k, hR.f8.k, hR.f9.k, hR.f10.k, hR.f11.k, hR.f12.k, hR.f13.k, hR.f14.k, hR.f15.k, hR.f16.k, hR.f17.k, hR.f18.k, hR.f19.k, hR.f20.k, hR.f21.k⟩⟩
                  refine EachOf.cons [2] rfl (by kernel_rfl) ?_ ?_
                  · rintro L A W ⟨v, rfl, hR⟩ hi hw K hK
                    have e2 := hR.f2 (hw 2 (by simp))
                    simp only [e2]
                    clear e2
                    go_simp
                    refine hK.out _ _ ?_
                    exact ⟨(fun jz => if jz = 85 then .bool false else if jz = 86 then .int .i64 (i : Int) else v jz), rfl, ⟨hR.st, hR.w1.o, hR.w2.o, (fun _ j hj => upd_on (hw j hj)), hR.w4.o, hR.w5.o, hR.w6.o, hR.w7.o, hR.w8.o, hR.w9.o, hR.w10.o, hR.w11.o, hR.w12.o, hR.w13.o, hR.w14.o, hR.w15.o, hR.w16.o, hR.w17.o, hR.w18.o, hR.w19.o, hR.w20.o, hR.w21.o, hR.f0.k, hR.f1.k, (fun _ => rfl), (fun _ => rfl), hR.f4.k, hR.f5.k, hR.f6.k, hR.f7.k, hR.f8.k, hR.f9.k, hR.f10.k, hR.f11.k, hR.f12.k, hR.f13.k, hR.f14.k, hR.f15.k, hR.f16.k, hR.f17.k, hR.f18.k, hR.f19.k, hR.f20.k, hR.f21.k⟩⟩
                  refine EachOf.cons [2, 3] rfl (by kernel_rfl) ?_ ?_
                  · rintro L A W ⟨v, rfl, hR⟩ hi hw K hK
                    have e3 := hR.f3 (hw 3 (by simp))
                    have e2 := hR.f2 (hw 2 (by simp))
                    simp only [e3, e2]
                    clear e3 e2
                    go_simp
                    refine hK.out _ _ ?_
                    exact ⟨(fun jz => if jz = 86 then .int .i64 (i : Int) else if jz = 85 then .bool false else if jz = 87 then .bool false else v jz), rfl, ⟨hR.st, hR.w1.o, hR.w2.o, hR.w3.o, (fun _ j hj => upd_on (hw j hj)), hR.w5.o, hR.w6.o, hR.w7.o, hR.w8.o, hR.w9.o, hR.w10.o, hR.w11.o, hR.w12.o, hR.w13.o, hR.w14.o, hR.w15.o, hR.w16.o, hR.w17.o, hR.w18.o, hR.w19.o, hR.w20.o, hR.w21.o, hR.f0.k, hR.f1.k, (fun _ => rfl), (fun _ => rfl), (fun _ => rfl), hR.f5.k, hR.f6.k, hR.f7.k, hR.f8.k, hR.f9.k, hR.f10.k, hR.f11.k, hR.f12.k, hR.f13.k, hR.f14.k, hR.f15.k, hR.f16.k, hR.f17.k, hR.f18.k, hR.f19.k, hR.f20.k, hR.f21.k⟩⟩
                  refine EachOf.cons [2, 4] rfl (by kernel_rfl) ?_ ?_
                  · rintro L A W ⟨v, rfl, hR⟩ hi hw K hK
                    have e4 := hR.f4 (hw 4 (by simp))
                    have e2 := hR.f2 (hw 2 (by simp))
                    simp only [e4, e2]
                    clear e4 e2
                    go_simp
                    refine hK.out _ _ ?_
                    exact ⟨(fun jz => if jz = 87 then .bool false else if jz = 85 then .bool false else if jz = 88 then .bool false else v jz), rfl, ⟨hR.st, hR.w1.o, hR.w2.o, hR.w3.o, hR.w4.o, (fun _ j hj => upd_on (hw j hj)), hR.w6.o, hR.w7.o, hR.w8.o, hR.w9.o, hR.w10.o, hR.w11.o, hR.w12.o, hR.w13.o, hR.w14.o, hR.w15.o, hR.w16.o, hR.w17.o, hR.w18.o, hR.w19.o, hR.w20.o, hR.w21.o, hR.f0.k, hR.f1.k, (fun _ => rfl), hR.f3.k, (fun _ => rfl), (fun _ => rfl), hR.f6.k, hR.f7.k, hR.f8.k, hR.f9.k, hR.f10.k, hR.f11.k, hR.f12.k, hR.f13.k, hR.f14.k, hR.f15.k, hR.f16.k, hR.f17.k, hR.f18.k, hR.f19.k, hR.f20.k, hR.f21.k⟩⟩
                  refine EachOf.cons [5] rfl (by kernel_rfl) ?_ ?_
                  · rintro L A W ⟨v, rfl, hR⟩ hi hw K hK
                    have e5 := hR.f5 (hw 5 (by simp))
                    simp only [e5]
                    clear e5
                    go_simp
                    refine hK.out _ _ ?_
                    exact ⟨(fun jz => if jz = 88 then .bool false else if jz = 89 then undef else v jz), rfl, ⟨hR.st, hR.w1.o, hR.w2.o, hR.w3.o, hR.w4.o, hR.w5.o, (fun _ j hj => upd_on (hw j hj)), hR.w7.o, hR.w8.o, hR.w9.o, hR.w10.o, hR.w11.o, hR.w12.o, hR.w13.o, hR.w14.o, hR.w15.o, hR.w16.o, hR.w17.o, hR.w18.o, hR.w19.o, hR.w20.o, hR.w21.o, hR.f0.k, hR.f1.k, hR.f2.k, hR.f3.k, hR.f4.k, (fun _ => rfl), (fun _ => rfl), hR.f7.k, hR.f8.k, hR.f9.k, hR.f10.k, hR.f11.k, hR.f12.k, hR.f13.k, hR.f14.k, hR.f15.k, hR.f16.k, hR.f17.k, hR.f18.k, hR.f19.k, hR.f20.k, hR.f21.k⟩⟩
                  refine EachOf.cons [5] rfl (by kernel_rfl) ?_ ?_
                  · rintro L A W ⟨v, rfl, hR⟩ hi hw K hK
                    have e5 := hR.f5 (hw 5 (by simp))
                    simp only [e5]
                    clear e5
                    go_simp
                    refine hK.out _ _ ?_
                    exact ⟨(fun jz => if jz = 88 then .bool false else if jz = 90 then undef else v jz), rfl, ⟨hR.st, hR.w1.o, hR.w2.o, hR.w3.o, hR.w4.o, hR.w5.o, hR.w6.o, (fun _ j hj => upd_on (hw j hj)), hR.w8.o, hR.w9.o, hR.w10.o, hR.w11.o, hR.w12.o, hR.w13.o, hR.w14.o, hR.w15.o, hR.w16.o, hR.w17.o, hR.w18.o, hR.w19.o, hR.w20.o, hR.w21.o, hR.f0.k, hR.f1.k, hR.f2.k, hR.f3.k, hR.f4.k, (fun _ => rfl), hR.f6.k, (fun _ => rfl), hR.f8.k, hR.f9.k, hR.f10.k, hR.f11.k, hR.f12.k, hR.f13.k, hR.f14.k, hR.f15.k, hR.f16.k, hR.f17.k, hR.f18.k, hR.f19.k, hR.f20.k, hR.f21.k⟩⟩
                  refine EachOf.cons [5, 6, 7] rfl (by kernel_rfl) ?_ ?_
                  · rintro L A W ⟨v, rfl, hR⟩ hi hw K hK
                    have e6 := hR.f6 (hw 6 (by simp))
                    have e7 := hR.f7 (hw 7 (by simp))
                    have e5 := hR.f5 (hw 5 (by simp))
                    simp only [e6, e7, e5]
                    clear e6 e7 e5
                    go_simp
                    refine hK.out _ _ ?_
                    exact ⟨(fun jz => if jz = 89 then undef else if jz = 90 then undef else if jz = 88 then .bool false else if jz = 91 then undef else v jz), rfl, ⟨hR.st, hR.w1.o, hR.w2.o, hR.w3.o, hR.w4.o, hR.w5.o, hR.w6.o, hR.w7.o, (fun _ j hj => upd_on (hw j hj)), hR.w9.o, hR.w10.o, hR.w11.o, hR.w12.o, hR.w13.o, hR.w14.o, hR.w15.o, hR.w16.o, hR.w17.o, hR.w18.o, hR.w19.o, hR.w20.o, hR.w21.o, hR.f0.k, hR.f1.k, hR.f2.k, hR.f3.k, hR.f4.k, (fun _ => rfl), (fun _ => rfl), (fun _ => rfl), (fun _ => rfl), hR.f9.k, hR.f10.k, hR.f11.k, hR.f12.k, hR.f13.k, hR.f14.k, hR.f15.k, hR.f16.k, hR.f17.k, hR.f18.k, hR.f19.k, hR.f20.k, hR.f21.k⟩⟩
                  refine EachOf.cons [5, 8] rfl (by kernel_rfl) ?_ ?_
                  · rintro L A W ⟨v, rfl, hR⟩ hi hw K hK
                    have e8 := hR.f8 (hw 8 (by simp))
                    have e5 := hR.f5 (hw 5 (by simp))
                    simp only [e8, e5]
                    clear e8 e5
                    go_simp
                    refine hK.out _ _ ?_
                    exact ⟨(fun jz => if jz = 91 then undef else if jz = 88 then .bool false else if jz = 92 then undef else v jz), rfl, ⟨hR.st, hR.w1.o, hR.w2.o, hR.w3.o, hR.w4.o, hR.w5.o, hR.w6.o, hR.w7.o, hR.w8.o, (fun _ j hj => upd_on (hw j hj)), hR.w10.o, hR.w11.o, hR.w12.o, hR.w13.o, hR.w14.o, hR.w15.o, hR.w16.o, hR.w17.o, hR.w18.o, hR.w19.o, hR.w20.o, hR.w21.o, hR.f0.k, hR.f1.k, hR.f2.k, hR.f3.k, hR.f4.k, (fun _ => rfl), hR.f6.k, hR.f7.k, (fun _ => rfl), (fun _ => rfl), hR.f10.k, hR.f11.k, hR.f12.k, hR.f13.k, hR.f14.k, hR.f15.k, hR.f16.k, hR.f17.k, hR.f18.k, hR.f19.k, hR.f20.k, hR.f21.k⟩⟩
                  refine EachOf.cons [5, 9] rfl (by kernel_rfl) ?_ ?_
                  · rintro L A W ⟨v, rfl, hR⟩ hi hw K hK
                    have e9 := hR.f9 (hw 9 (by simp))
                    have e5 := hR.f5 (hw 5 (by simp))
                    simp only [e9, e5]
                    clear e9 e5
                    go_simp
                    refine hK.out _ _ ?_
                    exact ⟨(fun jz => if jz = 92 then undef else if jz = 88 then .bool false else if jz = 93 then undef else v jz), rfl, ⟨hR.st, hR.w1.o, hR.w2.o, hR.w3.o, hR.w4.o, hR.w5.o, hR.w6.o, hR.w7.o, hR.w8.o, hR.w9.o, (fun _ j hj => upd_on (hw j hj)), hR.w11.o, hR.w12.o, hR.w13.o, hR.w14.o, hR.w15.o, hR.w16.o, hR.w17.o, hR.w18.o, hR.w19.o, hR.w20.o, hR.w21.o, hR.f0.k, hR.f1.k, hR.f2.k, hR.f3.k, hR.f4.k, (fun _ => rfl), hR.f6.k, hR.f7.k, hR.f8.k, (fun _ => rfl), (fun _ => rfl), hR.f11.k, hR.f12.k, hR.f13.k, hR.f14.k, hR.f15.k, hR.f16.k, hR.f17.k, hR.f18.k, hR.f19.k, hR.f20.k, hR.f21.k⟩⟩
                  refine EachOf.cons [5, 10] rfl (by kernel_rfl) ?_ ?_
                  · rintro L A W ⟨v, rfl, hR⟩ hi hw K hK
                    have e10 := hR.f10 (hw 10 (by simp))
                    have e5 := hR.f5 (hw 5 (by simp))
                    simp only [e10, e5]
                    clear e10 e5
                    go_simp
                    refine hK.out _ _ ?_
                    exact ⟨(fun jz => if jz = 93 then undef else if jz = 88 then .bool false else if jz = 94 then undef else v jz), rfl, ⟨hR.st, hR.w1.o, hR.w2.o, hR.w3.o, hR.w4.o, hR.w5.o, hR.w6.o, hR.w7.o, hR.w8.o, hR.w9.o, hR.w10.o, (fun _ j hj => upd_on (hw j hj)), hR.w12.o, hR.w13.o, hR.w14.o, hR.w15.o, hR.w16.o, hR.w17.o, hR.w18.o, hR.w19.o, hR.w20.o, hR.w21.o, hR.f0.k, hR.f1.k, hR.f2.k, hR.f3.k, hR.f4.k, (fun _ => rfl), hR.f6.k, hR.f7.k, hR.f8.k, hR.f9.k, (fun _ => rfl), (fun _ => rfl), hR.f12.k, hR.f13.k, hR.f14.k, hR.f15.k, hR.f16.k, hR.f17.k, hR.f18.k, hR.f19.k, hR.f20.k, hR.f21.k⟩⟩
                  refine EachOf.cons [5] rfl (by kernel_rfl) ?_ ?_
                  · rintro L A W ⟨v, rfl, hR⟩ hi hw K hK
                    have e5 := hR.f5 (hw 5 (by simp))
                    simp only [e5]
                    clear e5
                    go_simp
                    refine hK.out _ _ ?_
                    exact ⟨(fun jz => if jz = 88 then .bool false else if jz = 95 then undef else v jz), rfl, ⟨hR.st, hR.w1.o, hR.w2.o, hR.w3.o, hR.w4.o, hR.w5.o, hR.w6.o, hR.w7.o, hR.w8.o, hR.w9.o, hR.w10.o, hR.w11.o, (fun _ j hj => upd_on (hw j hj)), hR.w13.o, hR.w14.o, hR.w15.o, hR.w16.o, hR.w17.o, hR.w18.o, hR.w19.o, hR.w20.o, hR.w21.o, hR.f0.k, hR.f1.k, hR.f2.k, hR.f3.k, hR.f4.k, (fun _ => rfl), hR.f6.k, hR.f7.k, hR.f8.k, hR.f9.k, hR.f10.k, hR.f11.k, (fun _ => rfl), hR.f13.k, hR.f14.k, hR.f15.k, hR.f16.k, hR.f17.k, hR.f18.k, hR.f19.k, hR.f20.k, hR.f21.k⟩⟩
                  refine EachOf.cons [5] rfl (by kernel_rfl) ?_ ?_
                  · rintro L A W ⟨v, rfl, hR⟩ hi hw K hK
                    have e5 := hR.f5 (hw 5 (by simp))
                    simp only [e5]
                    clear e5
                    go_simp
                    refine hK.out _ _ ?_
                    exact ⟨(fun jz => if jz = 88 then .bool false else if jz = 96 then undef else v jz), rfl, ⟨hR.st, hR.w1.o, hR.w2.o, hR.w3.o, hR.w4.o, hR.w5.o, hR.w6.o, hR.w7.o, hR.w8.o, hR.w9.o, hR.w10.o, hR.w11.o, hR.w12.o, (fun _ j hj => upd_on (hw j hj)), hR.w14.o, hR.w15.o, hR.w16.o, hR.w17.o, hR.w18.o, hR.w19.o, hR.w20.o, hR.w21.o, hR.f0.k, hR.f1.k, hR.f2.k, hR.f3.k, hR.f4.k, (fun _ => rfl), hR.f6.k, hR.f7.k, hR.f8.k, hR.f9.k, hR.f10.k, hR.f11.k, hR.f12.k, (fun _ => rfl), hR.f14.k, hR.f15.k, hR.f16.k, hR.f17.k, hR.f18.k, hR.f19.k, hR.f20.k, hR.f21.k⟩⟩
                  refine EachOf.cons [5, 13] rfl (by kernel_rfl) ?_ ?_
                  · rintro L A W ⟨v, rfl, hR⟩ hi hw K hK
                    have e13 := hR.f13 (hw 13 (by simp))
                    have e5 := hR.f5 (hw 5 (by simp))
                    simp only [e13, e5]
                    clear e13 e5
                    go_simp
                    refine hK.out _ _ ?_
                    exact ⟨(fun jz => if jz = 96 then undef else if jz = 88 then .bool false else if jz = 97 then undef else v jz), rfl, ⟨hR.st, hR.w1.o, hR.w2.o, hR.w3.o, hR.w4.o, hR.w5.o, hR.w6.o, hR.w7.o, hR.w8.o, hR.w9.o, hR.w10.o, hR.w11.o, hR.w12.o, hR.w13.o, (fun _ j hj => upd_on (hw j hj)), hR.w15.o, hR.w16.o, hR.w17.o, hR.w18.o, hR.w19.o, hR.w20.o, hR.w21.o, hR.f0.k, hR.f1.k, hR.f2.k, hR.f3.k, hR.f4.k, (fun _ => rfl), hR.f6.k, hR.f7.k, hR.f8.k, hR.f9.k, hR.f10.k, hR.f11.k, hR.f12.k, (fun _ => rfl), (fun _ => rfl), hR.f15.k, hR.f16.k, hR.f17.k, hR.f18.k, hR.f19.k, hR.f20.k, hR.f21.k⟩⟩
                  refine EachOf.cons [5, 12, 14] rfl (by kernel_rfl) ?_ ?_
                  · rintro L A W ⟨v, rfl, hR⟩ hi hw K hK
                    have e12 := hR.f12 (hw 12 (by simp))
                    have e14 := hR.f14 (hw 14 (by simp))
                    have e5 := hR.f5 (hw 5 (by simp))
                    simp only [e12, e14, e5]
                    clear e12 e14 e5
                    go_simp
                    refine hK.out _ _ ?_
                    exact ⟨(fun jz => if jz = 95 then undef else if jz = 97 then undef else if jz = 88 then .bool false else if jz = 98 then undef else v jz), rfl, ⟨hR.st, hR.w1.o, hR.w2.o, hR.w3.o, hR.w4.o, hR.w5.o, hR.w6.o, hR.w7.o, hR.w8.o, hR.w9.o, hR.w10.o, hR.w11.o, hR.w12.o, hR.w13.o, hR.w14.o, (fun _ j hj => upd_on (hw j hj)), hR.w16.o, hR.w17.o, hR.w18.o, hR.w19.o, hR.w20.o, hR.w21.o, hR.f0.k, hR.f1.k, hR.f2.k, hR.f3.k, hR.f4.k, (fun _ => rfl), hR.f6.k, hR.f7.k, hR.f8.k, hR.f9.k, hR.f10.k, hR.f11.k, (fun _ => rfl), hR.f13.k, (fun _ => rfl), (fun _ => rfl), hR.f16.k, hR.f17.k, hR.f18.k, hR.f19.k, hR.f20.k, hR.f21.k⟩⟩
                  refine EachOf.cons [5, 15] rfl (by kernel_rfl) ?_ ?_
                  · rintro L A W ⟨v, rfl, hR⟩ hi hw K hK
                    have e15 := hR.f15 (hw 15 (by simp))
                    have e5 := hR.f5 (hw 5 (by simp))
                    simp only [e15, e5]
                    clear e15 e5
                    go_simp
                    refine hK.out _ _ ?_
                    exact ⟨(fun jz => if jz = 98 then undef else if jz = 88 then .bool false else if jz = 99 then undef else v jz), rfl, ⟨hR.st, hR.w1.o, hR.w2.o, hR.w3.o, hR.w4.o, hR.w5.o, hR.w6.o, hR.w7.o, hR.w8.o, hR.w9.o, hR.w10.o, hR.w11.o, hR.w12.o, hR.w13.o, hR.w14.o, hR.w15.o, (fun _ j hj => upd_on (hw j hj)), hR.w17.o, hR.w18.o, hR.w19.o, hR.w20.o, hR.w21.o, hR.f0.k, hR.f1.k, hR.f2.k, hR.f3.k, hR.f4.k, (fun _ => rfl), hR.f6.k, hR.f7.k, hR.f8.k, hR.f9.k, hR.f10.k, hR.f11.k, hR.f12.k, hR.f13.k, hR.f14.k, (fun _ => rfl), (fun _ => rfl), hR.f17.k, hR.f18.k, hR.f19.k, hR.f20.k, hR.f21.k⟩⟩
                  refine EachOf.cons [5, 16] rfl (by kernel_rfl) ?_ ?_
                  · rintro L A W ⟨v, rfl, hR⟩ hi hw K hK
                    have e16 := hR.f16 (hw 16 (by simp))
                    have e5 := hR.f5 (hw 5 (by simp))
                    simp only [e16, e5]
                    clear e16 e5
                    go_simp
                    refine hK.out _ _ ?_
                    exact ⟨(fun jz => if jz = 99 then undef else if jz = 88 then .bool false else if jz = 100 then undef else v jz), rfl, ⟨hR.st, hR.w1.o, hR.w2.o, hR.w3.o, hR.w4.o, hR.w5.o, hR.w6.o, hR.w7.o, hR.w8.o, hR.w9.o, hR.w10.o, hR.w11.o, hR.w12.o, hR.w13.o, hR.w14.o, hR.w15.o, hR.w16.o, (fun _ j hj => upd_on (hw j hj)), hR.w18.o, hR.w19.o, hR.w20.o, hR.w21.o, hR.f0.k, hR.f1.k, hR.f2.k, hR.f3.k, hR.f4.k, (fun _ => rfl), hR.f6.k, hR.f7.k, hR.f8.k, hR.f9.k, hR.f10.k, hR.f11.k, hR.f12.k, hR.f13.k, hR.f14.k, hR.f15.k, (fun _ => rfl), (fun _ => rfl), hR.f18.k, hR.f19.k, hR.f20.k, hR.f21.k⟩⟩
                  refine EachOf.cons [5, 17] rfl (by kernel_rfl) ?_ ?_
                  · rintro L A W ⟨v, rfl, hR⟩ hi hw K hK
                    have e17 := hR.f17 (hw 17 (by simp))
                    have e5 := hR.f5 (hw 5 (by simp))
                    simp only [e17, e5]
                    clear e17 e5
                    go_simp
                    refine hK.out _ _ ?_
                    exact ⟨(fun jz => if jz = 100 then undef else if jz = 88 then .bool false else if jz = 101 then undef else v jz), rfl, ⟨hR.st, hR.w1.o, hR.w2.o, hR.w3.o, hR.w4.o, hR.w5.o, hR.w6.o, hR.w7.o, hR.w8.o, hR.w9.o, hR.w10.o, hR.w11.o, hR.w12.o, hR.w13.o, hR.w14.o, hR.w15.o, hR.w16.o, hR.w17.o, (fun _ j hj => upd_on (hw j hj)), hR.w19.o, hR.w20.o, hR.w21.o, hR.f0.k, hR.f1.k, hR.f2.k, hR.f3.k, hR.f4.k, (fun _ => rfl), hR.f6.k, hR.f7.k, hR.f8.k, hR.f9.k, hR.f10.k, hR.f11.k, hR.f12.k, hR.f13.k, hR.f14.k, hR.f15.k, hR.f16.k, (fun _ => rfl), (fun _ => rfl), hR.f19.k, hR.f20.k, hR.f21.k⟩⟩
                  refine EachOf.cons [5, 11, 18] rfl (by kernel_rfl) ?_ ?_
                  · rintro L A W ⟨v, rfl, hR⟩ hi hw K hK
                    have e11 := hR.f11 (hw 11 (by simp))
                    have e18 := hR.f18 (hw 18 (by simp))
                    have e5 := hR.f5 (hw 5 (by simp))
                    simp only [e11, e18, e5]
                    clear e11 e18 e5
                    go_simp
                    refine hK.out _ _ ?_
                    exact ⟨(fun jz => if jz = 94 then undef else if jz = 101 then undef else if jz = 88 then .bool false else if jz = 102 then undef else v jz), rfl, ⟨hR.st, hR.w1.o, hR.w2.o, hR.w3.o, hR.w4.o, hR.w5.o, hR.w6.o, hR.w7.o, hR.w8.o, hR.w9.o, hR.w10.o, hR.w11.o, hR.w12.o, hR.w13.o, hR.w14.o, hR.w15.o, hR.w16.o, hR.w17.o, hR.w18.o, (fun _ j hj => upd_on (hw j hj)), hR.w20.o, hR.w21.o, hR.f0.k, hR.f1.k, hR.f2.k, hR.f3.k, hR.f4.k, (fun _ => rfl), hR.f6.k, hR.f7.k, hR.f8.k, hR.f9.k, hR.f10.k, (fun _ => rfl), hR.f12.k, hR.f13.k, hR.f14.k, hR.f15.k, hR.f16.k, hR.f17.k, (fun _ => rfl), (fun _ => rfl), hR.f20.k, hR.f21.k⟩⟩
                  refine EachOf.cons [2, 5, 19] rfl (by kernel_rfl) ?_ ?_
                  · rintro L A W ⟨v, rfl, hR⟩ hi hw K hK
                    have e5 := hR.f5 (hw 5 (by simp))
                    have e19 := hR.f19 (hw 19 (by simp))
                    have e2 := hR.f2 (hw 2 (by simp))
                    simp only [e5, e19, e2]
                    clear e5 e19 e2
                    go_simp
                    refine hK.out _ _ ?_
                    exact ⟨(fun jz => if jz = 88 then .bool false else if jz = 102 then undef else if jz = 85 then .bool false else if jz = 103 then .bool false else v jz), rfl, ⟨hR.st, hR.w1.o, hR.w2.o, hR.w3.o, hR.w4.o, hR.w5.o, hR.w6.o, hR.w7.o, hR.w8.o, hR.w9.o, hR.w10.o, hR.w11.o, hR.w12.o, hR.w13.o, hR.w14.o, hR.w15.o, hR.w16.o, hR.w17.o, hR.w18.o, hR.w19.o, (fun _ j hj => upd_on (hw j hj)), hR.w21.o, hR.f0.k, hR.f1.k, (fun _ => rfl), hR.f3.k, hR.f4.k, (fun _ => rfl), hR.f6.k, hR.f7.k, hR.f8.k, hR.f9.k, hR.f10.k, hR.f11.k, hR.f12.k, hR.f13.k, hR.f14.k, hR.f15.k, hR.f16.k, hR.f17.k, hR.f18.k, (fun _ => rfl), (fun _ => rfl), hR.f21.k⟩⟩
                  refine EachOf.cons [2, 20] rfl (by kernel_rfl) ?_ ?_
                  · rintro L A W ⟨v, rfl, hR⟩ hi hw K hK
                    have e2 := hR.f2 (hw 2 (by simp))
                    have e20 := hR.f20 (hw 20 (by simp))
                    simp only [e2, e20]
                    clear e2 e20
                    go_simp
                    refine hK.out _ _ ?_
                    exact ⟨(fun jz => if jz = 85 then .bool false else if jz = 103 then .bool false else if jz = 104 then .bool false else v jz), rfl, ⟨hR.st, hR.w1.o, hR.w2.o, hR.w3.o, hR.w4.o, hR.w5.o, hR.w6.o, hR.w7.o, hR.w8.o, hR.w9.o, hR.w10.o, hR.w11.o, hR.w12.o, hR.w13.o, hR.w14.o, hR.w15.o, hR.w16.o, hR.w17.o, hR.w18.o, hR.w19.o, hR.w20.o, (fun _ j hj => upd_on (hw j hj)), hR.f0.k, hR.f1.k, (fun _ => rfl), hR.f3.k, hR.f4.k, hR.f5.k, hR.f6.k, hR.f7.k, hR.f8.k, hR.f9.k, hR.f10.k, hR.f11.k, hR.f12.k, hR.f13.k, hR.f14.k, hR.f15.k, hR.f16.k, hR.f17.k, hR.f18.k, hR.f19.k, (fun _ => rfl), (fun _ => rfl)⟩⟩
                  exact EachOf.nil
                · rintro L A W ⟨v, rfl, hR⟩ hall
                  have hst := Lib.hid hR.st
                  have e21 := hR.f21 (hall 21 (by simp))
                  simp only [e21]
                  clear hR e21 hall
                  go_wp2_with fail
                  go_roundg (zss.length - (i + 1))
                  case measure => omega
                  case rel => exact ⟨i + 1, rfl, by rw [HU2.out], rfl, by omega, below_on HB.out hst.out, BR.out.on hst.out, T3.out⟩
              · obtain ⟨im, him⟩ : ∃ im, im + 1 = i := ⟨i - 1, by omega⟩
                have ip : (i : Int) > 0 := by omega
                have ip1 : 0 < i := by omega
                have ip2 : decide (0 < i) = true := decide_eq_true (by omega)
                have ip3 : decide ((0 : Int) < (i : Int)) = true := decide_eq_true (by omega)
                have wim : IntKind.i64.wrap ((i : Int) - 1) = (im : Int) := by rw [IntWalk.i64_in _ (by omega)]; omega
                have lim : (im : Int) < (zss.length : Int) := by omega
                obtain ⟨pg', po', ep, hpl3, hpc3⟩ := HZ.out W2 HB.out (by omega)
                injection ep with ep
                injection ep with ep1 ep2
                subst ep1; subst ep2
                obtain ⟨qb, rc, p7, hq7⟩ := hpc3 im (by omega)
                have hbp := (TI.out.pre im (by omega)).1
                obtain ⟨rg, ro, rfl, hrg, hrc⟩ := hq7 hbp.2.1
                have p8 := hrc 0 hbp.2.1
                rw [Nat.add_zero] at p8
                have LR := Lib.hid (And.intro p7 hpl3)
                have LY := Lib.hid (And.intro p8 hrg)
                have l0 : (0 : Int) < ((rowZ zss im).length : Int) := by have := hbp.2.1; omega
                have l00 := hbp.2.1
                have l1 : (0 : Int) < (N1 : Int) := by omega
                have l10 : 0 < N1 := by omega
                have hle : leastI zss i = nth (rowZ zss im) 0 := by rw [← him]; rfl
                generalize (rowZ zss im).length = N0 at *
                by_cases hord : nth (rowZ zss i) 0 < nth (rowZ zss im) 0
                · have q5 : decide (nth (rowZ zss i) 0 < nth (rowZ zss im) 0) = true := decide_eq_true hord
                  have hb : decide (ChkS n f zss) = false := decide_eq_false (fun h => by have := (h.1 i hlt).2.1; omega)
                  generalize nth (rowZ zss i) 0 = x at *
                  generalize nth (rowZ zss im) 0 = y at *
                  generalize szN n (metZ n zss (i + 1)) = u2 at *
                  clear HQ2 hqc hbal hs0 hsum ek hNr hup TI hi0 p0 p7 p8 hpc3 hq7 hbp hrc hord hle him
                  go_upto_region 18 with fail
                  refine wp_region_each (fun L A W => ∃ (v : Nat → Value), A = ⟨#[_, _, _, _, _, _, _, _, _, _, _, _, _, _, _, _, _, _, _, _, _, _, _, _, _, _, _, _, _, _, _, _, _, _, _, _, _, _, _, _, _, _, _, _, _, _, _, _, _, _, _, _, _, _, _, _, _, _, _, _, _, _, _, _, _, _, _, _, _, _, _, _, _, _, _, _, _, _, _, _, _, _, _, v 83, v 84, v 85, v 86, v 87, v 88, v 89, v 90, v 91, v 92, v 93, v 94, v 95, v 96, v 97, v 98, v 99, v 100, v 101, v 102, v 103, v 104, _, _, _, _], []⟩ ∧ RccR pg po zss.length pc i qg qo N1 qc2 rg ro N0 rc im 0 x y true true W2 L v W) (by kernel_rfl) (by kernel_rfl) ⟨fun jz => if jz = 83 then u83 else if jz = 84 then u84 else if jz = 85 then u85 else if jz = 86 then u86 else if jz = 87 then u87 else if jz = 88 then u88 else if jz = 89 then u89 else if jz = 90 then u90 else if jz = 91 then u91 else if jz = 92 then u92 else if jz = 93 then u93 else if jz = 94 then u94 else if jz = 95 then u95 else if jz = 96 then u96 else if jz = 97 then u97 else if jz = 98 then u98 else if jz = 99 then u99 else if jz = 100 then u100 else if jz = 101 then u101 else if jz = 102 then u102 else if jz = 103 then u103 else if jz = 104 then u104 else undef, rfl, ⟨Below.drew (Below.refl _ _), Had.none, Had.none, Had.none, Had.none, Had.none, Had.none, Had.none, Had.none, Had.none, Had.none, Had.none, Had.none, Had.none, Had.none, Had.none, Had.none, Had.none, Had.none, Had.none, Had.none, Had.none, Had.none, Had.none, Had.none, Had.none, Had.none, Had.none, Had.none, Had.none, Had.none, Had.none, Had.none, Had.none, Had.none, Had.none, Had.none, Had.none, Had.none, Had.none, Had.none, Had.none, Had.none, Had.none⟩⟩ (rs := [0, 1, 2, 3, 4, 5, 6, 7, 8, 9, 10, 11, 12, 13, 14, 15, 16, 17, 18, 19, 20, 21]) (by kernel_rfl) ?_ ?_
                  · refine EachOf.cons [] rfl (by kernel_rfl) ?_ ?_
                    · rintro L A W ⟨v, rfl, hR⟩ hi hw K hK
                      go_simp
                      refine hK.out _ _ ?_
                      exact ⟨(fun jz => if jz = 83 then .int .i64 0 else v jz), rfl, ⟨hR.st, hR.w1.o, hR.w2.o, hR.w3.o, hR.w4.o, hR.w5.o, hR.w6.o, hR.w7.o, hR.w8.o, hR.w9.o, hR.w10.o, hR.w11.o, hR.w12.o, hR.w13.o, hR.w14.o, hR.w15.o, hR.w16.o, hR.w17.o, hR.w18.o, hR.w19.o, hR.w20.o, hR.w21.o, (fun _ => rfl), hR.f1.k, hR.f2.k, hR.f3.k, hR.f4.k, hR.f5.k, hR.f6.k, hR.f7.k, hR.f8.k, hR.f9.k, hR.f10.k, hR.f11.k, hR.f12.k, hR.f13.k, hR.f14.k, hR.f15.k, hR.f16.k, hR.f17.k, hR.f18.k, hR.f19.k, hR.f20.k, hR.f21.k⟩⟩
                    refine EachOf.cons [0] rfl (by kernel_rfl) ?_ ?_
                    · rintro L A W ⟨v, rfl, hR⟩ hi hw K hK
                      have e0 := hR.f0 (hw 0 (by simp))
                      simp only [e0]
                      clear e0
                      go_simp
                      refine hK.out _ _ ?_
                      exact ⟨(fun jz => if jz = 83 then .int .i64 0 else if jz = 84 then .bool false else v jz), rfl, ⟨hR.st, (fun _ j hj => upd_on (hw j hj)), hR.w2.o, hR.w3.o, hR.w4.o, hR.w5.o, hR.w6.o, hR.w7.o, hR.w8.o, hR.w9.o, hR.w10.o, hR.w11.o, hR.w12.o, hR.w13.o, hR.w14.o, hR.w15.o, hR.w16.o, hR.w17.o, hR.w18.o, hR.w19.o, hR.w20.o, hR.w21.o, (fun _ => rfl), (fun _ => rfl), hR.f2.k, hR.f3.k, hR.f4.k, hR.f5.k, hR.f6.k, hR.f7.k, hR.f8.k, hR.f9.k, hR.f10.k, hR.f11.k, hR.f12.k, hR.f13.k, hR.f14.k, hR.f15.k, hR.f16.k, hR.f17.k, hR.f18.k, hR.f19.k, hR.f20.k, hR.f21.k⟩⟩
                    refine EachOf.cons [1] rfl (by kernel_rfl) ?_ ?_
                    · rintro L A W ⟨v, rfl, hR⟩ hi hw K hK
                      have e1 := hR.f1 (hw 1 (by simp))
                      simp only [e1]
                      clear e1
                      go_simp
                      refine hK.out _ _ ?_
                      exact ⟨(fun jz => if jz = 84 then .bool false else if jz = 85 then .bool false else v jz), rfl, ⟨hR.st, hR.w1.o, (fun _ j hj => upd_on (hw j hj)), hR.w3.o, hR.w4.o, hR.w5.o, hR.w6.o, hR.w7.o, hR.w8.o, hR.w9.o, hR.w10.o, hR.w11.o, hR.w12.o, hR.w13.o, hR.w14.o, hR.w15.o, hR.w16.o, hR.w17.o, hR.w18.o, hR.w19.o, hR.w20.o, hR.w21.o, hR.f0.k, (fun _ => rfl), (fun _ => rfl), hR.f3.k, hR.f4.k, hR.f5.k, hR.f6.k, hR.f7.k, hR.f8.k, hR.f9.k, hR.f10.k, hR.f11.k, hR.f12.k, hR.f13.k, hR.f14.k, hR.f15.k, hR.f16.k, hR.f17.k, hR.f18.k, hR.f19.k, hR.f20.k, hR.f21.k⟩⟩
                    refine EachOf.cons [2] rfl (by kernel_rfl) ?_ ?_
                    · rintro L A W ⟨v, rfl, hR⟩ hi hw K hK
                      have e2 := hR.f2 (hw 2 (by simp))
                      simp only [e2]
                      clear e2
                      go_simp
                      refine hK.out _ _ ?_
                      exact ⟨(fun jz => if jz = 85 then .bool false else if jz = 86 then .int .i64 (i : Int) else v jz), rfl, ⟨hR.st, hR.w1.o, hR.w2.o, (fun _ j hj => upd_on (hw j hj)), hR.w4.o, hR.w5.o, hR.w6.o, hR.w7.o, hR.w8.o, hR.w9.o, hR.w10.o, hR.w11.o, hR.w12.o, hR.w13.o, hR.w14.o, hR.w15.o, hR.w16.o, hR.w17.o, hR.w18.o, hR.w19.o, hR.w20.o, hR.w21.o, hR.f0.k, hR.f1.k, (fun _ => rfl), (fun _ => rfl), hR.f4.k, hR.f5.k, hR.f6.k, hR.f7.k, hR.f8.k, hR.f9.k, hR.f10.k, hR.f11.k, hR.f12.k, hR.f13.k, hR.f14.k, hR.f15.k, hR.f16.k, hR.f17.k, hR.f18.k, hR.f19.k, hR.f20.k, hR.f21.k⟩⟩
                    refine EachOf.cons [2, 3] rfl (by kernel_rfl) ?_ ?_
                    · rintro L A W ⟨v, rfl, hR⟩ hi hw K hK
                      have e3 := hR.f3 (hw 3 (by simp))
                      have e2 := hR.f2 (hw 2 (by simp))
                      simp only [e3, e2]
                      clear e3 e2
                      go_simp
                      refine hK.out _ _ ?_
                      exact ⟨(fun jz => if jz = 86 then .int .i64 (i : Int) else if jz = 85 then .bool false else if jz = 87 then .bool true else v jz), rfl, ⟨hR.st, hR.w1.o, hR.w2.o, hR.w3.o, (fun _ j hj => upd_on (hw j hj)), hR.w5.o, hR.w6.o, hR.w7.o, hR.w8.o, hR.w9.o, hR.w10.o, hR.w11.o, hR.w12.o, hR.w13.o, hR.w14.o, hR.w15.o, hR.w16.o, hR.w17.o, hR.w18.o, hR.w19.o, hR.w20.o, hR.w21.o, hR.f0.k, hR.f1.k, (fun _ => rfl), (fun _ => rfl), (fun _ => rfl), hR.f5.k, hR.f6.k, hR.f7.k, hR.f8.k, hR.f9.k, hR.f10.k, hR.f11.k, hR.f12.k, hR.f13.k, hR.f14.k, hR.f15.k, hR.f16.k, hR.f17.k, hR.f18.k, hR.f19.k, hR.f20.k, hR.f21.k⟩⟩
                    refine EachOf.cons [2, 4] rfl (by kernel_rfl) ?_ ?_
                    · rintro L A W ⟨v, rfl, hR⟩ hi hw K hK
                      have e4 := hR.f4 (hw 4 (by simp))
                      have e2 := hR.f2 (hw 2 (by simp))
                      simp only [e4, e2]
                      clear e4 e2
                      go_simp
                      refine hK.out _ _ ?_
                      exact ⟨(fun jz => if jz = 87 then .bool true else if jz = 85 then .bool false else if jz = 88 then .bool true else v jz), rfl, ⟨hR.st, hR.w1.o, hR.w2.o, hR.w3.o, hR.w4.o, (fun _ j hj => upd_on (hw j hj)), hR.w6.o, hR.w7.o, hR.w8.o, hR.w9.o, hR.w10.o, hR.w11.o, hR.w12.o, hR.w13.o, hR.w14.o, hR.w15.o, hR.w16.o, hR.w17.o, hR.w18.o, hR.w19.o, hR.w20.o, hR.w21.o, hR.f0.k, hR.f1.k, (fun _ => rfl), hR.f3.k, (fun _ => rfl), (fun _ => rfl), hR.f6.k, hR.f7.k, hR.f8.k, hR.f9.k, hR.f10.k, hR.f11.k, hR.f12.k, hR.f13.k, hR.f14.k, hR.f15.k, hR.f16.k, hR.f17.k, hR.f18.k, hR.f19.k, hR.f20.k, hR.f21.k⟩⟩
                    refine EachOf.cons [5] rfl (by kernel_rfl) ?_ ?_
                    · rintro L A W ⟨v, rfl, hR⟩ hi hw K hK
                      have e5 := hR.f5 (hw 5 (by simp))
                      simp only [e5]
                      clear e5
                      go_simp
                      refine hK.out _ _ ?_
                      exact ⟨(fun jz => if jz = 88 then .bool true else if jz = 89 then .slice (some ⟨pg, po, none⟩) (zss.length) (pc) else v jz), rfl, ⟨hR.st, hR.w1.o, hR.w2.o, hR.w3.o, hR.w4.o, hR.w5.o, (fun _ j hj => upd_on (hw j hj)), hR.w7.o, hR.w8.o, hR.w9.o, hR.w10.o, hR.w11.o, hR.w12.o, hR.w13.o, hR.w14.o, hR.w15.o, hR.w16.o, hR.w17.o, hR.w18.o, hR.w19.o, hR.w20.o, hR.w21.o, hR.f0.k, hR.f1.k, hR.f2.k, hR.f3.k, hR.f4.k, (fun _ => rfl), (fun _ => rfl), hR.f7.k, hR.f8.k, hR.f9.k, hR.f10.k, hR.f11.k, hR.f12.k, hR.f13.k, hR.f14.k, hR.f15.k, hR.f16.k, hR.f17.k, hR.f18.k, hR.f19.k, hR.f20.k, hR.f21.k⟩⟩
                    refine EachOf.cons [5] rfl (by kernel_rfl) ?_ ?_
                    · rintro L A W ⟨v, rfl, hR⟩ hi hw K hK
                      have e5 := hR.f5 (hw 5 (by simp))
                      simp only [e5]
                      clear e5
                      go_simp
                      refine hK.out _ _ ?_
                      exact ⟨(fun jz => if jz = 88 then .bool true else if jz = 90 then .int .i64 (i : Int) else v jz), rfl, ⟨hR.st, hR.w1.o, hR.w2.o, hR.w3.o, hR.w4.o, hR.w5.o, hR.w6.o, (fun _ j hj => upd_on (hw j hj)), hR.w8.o, hR.w9.o, hR.w10.o, hR.w11.o, hR.w12.o, hR.w13.o, hR.w14.o, hR.w15.o, hR.w16.o, hR.w17.o, hR.w18.o, hR.w19.o, hR.w20.o, hR.w21.o, hR.f0.k, hR.f1.k, hR.f2.k, hR.f3.k, hR.f4.k, (fun _ => rfl), hR.f6.k, (fun _ => rfl), hR.f8.k, hR.f9.k, hR.f10.k, hR.f11.k, hR.f12.k, hR.f13.k, hR.f14.k, hR.f15.k, hR.f16.k, hR.f17.k, hR.f18.k, hR.f19.k, hR.f20.k, hR.f21.k⟩⟩
                    refine EachOf.cons [5, 6, 7] rfl (by kernel_rfl) ?_ ?_
                    · rintro L A W ⟨v, rfl, hR⟩ hi hw K hK
                      have e6 := hR.f6 (hw 6 (by simp))
                      have e7 := hR.f7 (hw 7 (by simp))
                      have e5 := hR.f5 (hw 5 (by simp))
                      simp only [e6, e7, e5]
                      clear e6 e7 e5
                      go_simp
                      refine hK.out _ _ ?_
                      exact ⟨(fun jz => if jz = 89 then .slice (some ⟨pg, po, none⟩) (zss.length) (pc) else if jz = 90 then .int .i64 (i : Int) else if jz = 88 then .bool true else if jz = 91 then .pointer (some ⟨pg, po + i, none⟩) else v jz), rfl, ⟨hR.st, hR.w1.o, hR.w2.o, hR.w3.o, hR.w4.o, hR.w5.o, hR.w6.o, hR.w7.o, (fun _ j hj => upd_on (hw j hj)), hR.w9.o, hR.w10.o, hR.w11.o, hR.w12.o, hR.w13.o, hR.w14.o, hR.w15.o, hR.w16.o, hR.w17.o, hR.w18.o, hR.w19.o, hR.w20.o, hR.w21.o, hR.f0.k, hR.f1.k, hR.f2.k, hR.f3.k, hR.f4.k, (fun _ => rfl), (fun _ => rfl), (fun _ => rfl), (fun _ => rfl), hR.f9.k, hR.f10.k, hR.f11.k, hR.f12.k, hR.f13.k, hR.f14.k, hR.f15.k, hR.f16.k, hR.f17.k, hR.f18.k, hR.f19.k, hR.f20.k, hR.f21.k⟩⟩
                    refine EachOf.cons [5, 8] rfl (by kernel_rfl) ?_ ?_
                    · rintro L A W ⟨v, rfl, hR⟩ hi hw K hK
                      have e8 := hR.f8 (hw 8 (by simp))
                      have e5 := hR.f5 (hw 5 (by simp))
                      simp only [e8, e5]
                      clear e8 e5
                      have q0 := (hR.st.cell (p := ⟨pg, po + i, none⟩) LQ.out.2).trans LQ.out.1
                      go_simp
                      refine hK.out _ _ ?_
                      exact ⟨(fun jz => if jz = 91 then .pointer (some ⟨pg, po + i, none⟩) else if jz = 88 then .bool true else if jz = 92 then .slice (some ⟨qg, qo, none⟩) (N1) (qc2) else v jz), rfl, ⟨hR.st, hR.w1.o, hR.w2.o, hR.w3.o, hR.w4.o, hR.w5.o, hR.w6.o, hR.w7.o, hR.w8.o, (fun _ j hj => upd_on (hw j hj)), hR.w10.o, hR.w11.o, hR.w12.o, hR.w13.o, hR.w14.o, hR.w15.o, hR.w16.o, hR.w17.o, hR.w18.o, hR.w19.o, hR.w20.o, hR.w21.o, hR.f0.k, hR.f1.k, hR.f2.k, hR.f3.k, hR.f4.k, (fun _ => rfl), hR.f6.k, hR.f7.k, (fun _ => rfl), (fun _ => rfl), hR.f10.k, hR.f11.k, hR.f12.k, hR.f13.k, hR.f14.k, hR.f15.k, hR.f16.k, hR.f17.k, hR.f18.k, hR.f19.k, hR.f20.k, hR.f21.k⟩⟩
                    refine EachOf.cons [5, 9] rfl (by kernel_rfl) ?_ ?_
                    · rintro L A W ⟨v, rfl, hR⟩ hi hw K hK
                      have e9 := hR.f9 (hw 9 (by simp))
                      have e5 := hR.f5 (hw 5 (by simp))
                      simp only [e9, e5]
                      clear e9 e5
                      go_simp
                      refine hK.out _ _ ?_
                      exact ⟨(fun jz => if jz = 92 then .slice (some ⟨qg, qo, none⟩) (N1) (qc2) else if jz = 88 then .bool true else if jz = 93 then .pointer (some ⟨qg, qo, none⟩) else v jz), rfl, ⟨hR.st, hR.w1.o, hR.w2.o, hR.w3.o, hR.w4.o, hR.w5.o, hR.w6.o, hR.w7.o, hR.w8.o, hR.w9.o, (fun _ j hj => upd_on (hw j hj)), hR.w11.o, hR.w12.o, hR.w13.o, hR.w14.o, hR.w15.o, hR.w16.o, hR.w17.o, hR.w18.o, hR.w19.o, hR.w20.o, hR.w21.o, hR.f0.k, hR.f1.k, hR.f2.k, hR.f3.k, hR.f4.k, (fun _ => rfl), hR.f6.k, hR.f7.k, hR.f8.k, (fun _ => rfl), (fun _ => rfl), hR.f11.k, hR.f12.k, hR.f13.k, hR.f14.k, hR.f15.k, hR.f16.k, hR.f17.k, hR.f18.k, hR.f19.k, hR.f20.k, hR.f21.k⟩⟩
                    refine EachOf.cons [5, 10] rfl (by kernel_rfl) ?_ ?_
                    · rintro L A W ⟨v, rfl, hR⟩ hi hw K hK
                      have e10 := hR.f10 (hw 10 (by simp))
                      have e5 := hR.f5 (hw 5 (by simp))
                      simp only [e10, e5]
                      clear e10 e5
                      have q0 := (hR.st.cell (p := ⟨qg, qo, none⟩) LX.out.2).trans LX.out.1
                      go_simp
                      refine hK.out _ _ ?_
                      exact ⟨(fun jz => if jz = 93 then .pointer (some ⟨qg, qo, none⟩) else if jz = 88 then .bool true else if jz = 94 then .int .i64 x else v jz), rfl, ⟨hR.st, hR.w1.o, hR.w2.o, hR.w3.o, hR.w4.o, hR.w5.o, hR.w6.o, hR.w7.o, hR.w8.o, hR.w9.o, hR.w10.o, (fun _ j hj => upd_on (hw j hj)), hR.w12.o, hR.w13.o, hR.w14.o, hR.w15.o, hR.w16.o, hR.w17.o, hR.w18.o, hR.w19.o, hR.w20.o, hR.w21.o, hR.f0.k, hR.f1.k, hR.f2.k, hR.f3.k, hR.f4.k, (fun _ => rfl), hR.f6.k, hR.f7.k, hR.f8.k, hR.f9.k, (fun _ => rfl), (fun _ => rfl), hR.f12.k, hR.f13.k, hR.f14.k, hR.f15.k, hR.f16.k, hR.f17.k, hR.f18.k, hR.f19.k, hR.f20.k, hR.f21.k⟩⟩
                    refine EachOf.cons [5] rfl (by kernel_rfl) ?_ ?_
                    · rintro L A W ⟨v, rfl, hR⟩ hi hw K hK
                      have e5 := hR.f5 (hw 5 (by simp))
                      simp only [e5]
                      clear e5
                      go_simp
                      refine hK.out _ _ ?_
                      exact ⟨(fun jz => if jz = 88 then .bool true else if jz = 95 then .slice (some ⟨pg, po, none⟩) (zss.length) (pc) else v jz), rfl, ⟨hR.st, hR.w1.o, hR.w2.o, hR.w3.o, hR.w4.o, hR.w5.o, hR.w6.o, hR.w7.o, hR.w8.o, hR.w9.o, hR.w10.o, hR.w11.o, (fun _ j hj => upd_on (hw j hj)), hR.w13.o, hR.w14.o, hR.w15.o, hR.w16.o, hR.w17.o, hR.w18.o, hR.w19.o, hR.w20.o, hR.w21.o, hR.f0.k, hR.f1.k, hR.f2.k, hR.f3.k, hR.f4.k, (fun _ => rfl), hR.f6.k, hR.f7.k, hR.f8.k, hR.f9.k, hR.f10.k, hR.f11.k, (fun _ => rfl), hR.f13.k, hR.f14.k, hR.f15.k, hR.f16.k, hR.f17.k, hR.f18.k, hR.f19.k, hR.f20.k, hR.f21.k⟩⟩
                    refine EachOf.cons [5] rfl (by kernel_rfl) ?_ ?_
                    · rintro L A W ⟨v, rfl, hR⟩ hi hw K hK
                      have e5 := hR.f5 (hw 5 (by simp))
                      simp only [e5]
                      clear e5
                      go_simp
                      refine hK.out _ _ ?_
                      exact ⟨(fun jz => if jz = 88 then .bool true else if jz = 96 then .int .i64 (i : Int) else v jz), rfl, ⟨hR.st, hR.w1.o, hR.w2.o, hR.w3.o, hR.w4.o, hR.w5.o, hR.w6.o, hR.w7.o, hR.w8.o, hR.w9.o, hR.w10.o, hR.w11.o, hR.w12.o, (fun _ j hj => upd_on (hw j hj)), hR.w14.o, hR.w15.o, hR.w16.o, hR.w17.o, hR.w18.o, hR.w19.o, hR.w20.o, hR.w21.o, hR.f0.k, hR.f1.k, hR.f2.k, hR.f3.k, hR.f4.k, (fun _ => rfl), hR.f6.k, hR.f7.k, hR.f8.k, hR.f9.k, hR.f10.k, hR.f11.k, hR.f12.k, (fun _ => rfl), hR.f14.k, hR.f15.k, hR.f16.k, hR.f17.k, hR.f18.k, hR.f19.k, hR.f20.k, hR.f21.k⟩⟩
                    refine EachOf.cons [5, 13] rfl (by kernel_rfl) ?_ ?_
                    · rintro L A W ⟨v, rfl, hR⟩ hi hw K hK
                      have e13 := hR.f13 (hw 13 (by simp))
                      have e5 := hR.f5 (hw 5 (by simp))
                      simp only [e13, e5]
                      clear e13 e5
                      go_simp
                      refine hK.out _ _ ?_
                      exact ⟨(fun jz => if jz = 96 then .int .i64 (i : Int) else if jz = 88 then .bool true else if jz = 97 then .int .i64 (im : Int) else v jz), rfl, ⟨hR.st, hR.w1.o, hR.w2.o, hR.w3.o, hR.w4.o, hR.w5.o, hR.w6.o, hR.w7.o, hR.w8.o, hR.w9.o, hR.w10.o, hR.w11.o, hR.w12.o, hR.w13.o, (fun _ j hj => upd_on (hw j hj)), hR.w15.o, hR.w16.o, hR.w17.o, hR.w18.o, hR.w19.o, hR.w20.o, hR.w21.o, hR.f0.k, hR.f1.k, hR.f2.k, hR.f3.k, hR.f4.k, (fun _ => rfl), hR.f6.k, hR.f7.k, hR.f8.k, hR.f9.k, hR.f10.k, hR.f11.k, hR.f12.k, (fun _ => rfl), (fun _ => rfl), hR.f15.k, hR.f16.k, hR.f17.k, hR.f18.k, hR.f19.k, hR.f20.k, hR.f21.k⟩⟩
                    refine EachOf.cons [5, 12, 14] rfl (by kernel_rfl) ?_ ?_
                    · rintro L A W ⟨v, rfl, hR⟩ hi hw K hK
                      have e12 := hR.f12 (hw 12 (by simp))
                      have e14 := hR.f14 (hw 14 (by simp))
                      have e5 := hR.f5 (hw 5 (by simp))
                      simp only [e12, e14, e5]
                      clear e12 e14 e5
                      go_simp
                      refine hK.out _ _ ?_
                      exact ⟨(fun jz => if jz = 95 then .slice (some ⟨pg, po, none⟩) (zss.length) (pc) else if jz = 97 then .int .i64 (im : Int) else if jz = 88 then .bool true else if jz = 98 then .pointer (some ⟨pg, po + im, none⟩) else v jz), rfl, ⟨hR.st, hR.w1.o, hR.w2.o, hR.w3.o, hR.w4.o, hR.w5.o, hR.w6.o, hR.w7.o, hR.w8.o, hR.w9.o, hR.w10.o, hR.w11.o, hR.w12.o, hR.w13.o, hR.w14.o, (fun _ j hj => upd_on (hw j hj)), hR.w16.o, hR.w17.o, hR.w18.o, hR.w19.o, hR.w20.o, hR.w21.o, hR.f0.k, hR.f1.k, hR.f2.k, hR.f3.k, hR.f4.k, (fun _ => rfl), hR.f6.k, hR.f7.k, hR.f8.k, hR.f9.k, hR.f10.k, hR.f11.k, (fun _ => rfl), hR.f13.k, (fun _ => rfl), (fun _ => rfl), hR.f16.k, hR.f17.k, hR.f18.k, hR.f19.k, hR.f20.k, hR.f21.k⟩⟩
                    refine EachOf.cons [5, 15] rfl (by kernel_rfl) ?_ ?_
                    · rintro L A W ⟨v, rfl, hR⟩ hi hw K hK
                      have e15 := hR.f15 (hw 15 (by simp))
                      have e5 := hR.f5 (hw 5 (by simp))
                      simp only [e15, e5]
                      clear e15 e5
                      have q0 := (hR.st.cell (p := ⟨pg, po + im, none⟩) LR.out.2).trans LR.out.1
                      go_simp
                      refine hK.out _ _ ?_
                      exact ⟨(fun jz => if jz = 98 then .pointer (some ⟨pg, po + im, none⟩) else if jz = 88 then .bool true else if jz = 99 then .slice (some ⟨rg, ro, none⟩) (N0) (rc) else v jz), rfl, ⟨hR.st, hR.w1.o, hR.w2.o, hR.w3.o, hR.w4.o, hR.w5.o, hR.w6.o, hR.w7.o, hR.w8.o, hR.w9.o, hR.w10.o, hR.w11.o, hR.w12.o, hR.w13.o, hR.w14.o, hR.w15.o, (fun _ j hj => upd_on (hw j hj)), hR.w17.o, hR.w18.o, hR.w19.o, hR.w20.o, hR.w21.o, hR.f0.k, hR.f1.k, hR.f2.k, hR.f3.k, hR.f4.k, (fun _ => rfl), hR.f6.k, hR.f7.k, hR.f8.k, hR.f9.k, hR.f10.k, hR.f11.k, hR.f12.k, hR.f13.k, hR.f14.k, (fun _ => rfl), (fun _ => rfl), hR.f17.k, hR.f18.k, hR.f19.k, hR.f20.k, hR.f21.k⟩⟩
                    refine EachOf.cons [5, 16] rfl (by kernel_rfl) ?_ ?_
                    · rintro L A W ⟨v, rfl, hR⟩ hi hw K hK
                      have e16 := hR.f16 (hw 16 (by simp))
                      have e5 := hR.f5 (hw 5 (by simp))
                      simp only [e16, e5]
                      clear e16 e5
                      go_simp
                      refine hK.out _ _ ?_
                      exact ⟨(fun jz => if jz = 99 then .slice (some ⟨rg, ro, none⟩) (N0) (rc) else if jz = 88 then .bool true else if jz = 100 then .pointer (some ⟨rg, ro, none⟩) else v jz), rfl, ⟨hR.st, hR.w1.o, hR.w2.o, hR.w3.o, hR.w4.o, hR.w5.o, hR.w6.o, hR.w7.o, hR.w8.o, hR.w9.o, hR.w10.o, hR.w11.o, hR.w12.o, hR.w13.o, hR.w14.o, hR.w15.o, hR.w16.o, (fun _ j hj => upd_on (hw j hj)), hR.w18.o, hR.w19.o, hR.w20.o, hR.w21.o, hR.f0.k, hR.f1.k, hR.f2.k, hR.f3.k, hR.f4.k, (fun _ => rfl), hR.f6.k, hR.f7.k, hR.f8.k, hR.f9.k, hR.f10.k, hR.f11.k, hR.f12.k, hR.f13.k, hR.f14.k, hR.f15.k, (fun _ => rfl), (fun _ => rfl), hR.f18.k, hR.f19.k, hR.f20.k, hR.f21.k⟩⟩
                    refine EachOf.cons [5, 17] rfl (by kernel_rfl) ?_ ?_
                    · rintro L A W ⟨v, rfl, hR⟩ hi hw K hK
                      have e17 := hR.f17 (hw 17 (by simp))
                      have e5 := hR.f5 (hw 5 (by simp))
                      simp only [e17, e5]
                      clear e17 e5
                      have q0 := (hR.st.cell (p := ⟨rg, ro, none⟩) LY.out.2).trans LY.out.1
                      go_simp
                      refine hK.out _ _ ?_
                      exact ⟨(fun jz => if jz = 100 then .pointer (some ⟨rg, ro, none⟩) else if jz = 88 then .bool true else if jz = 101 then .int .i64 y else v jz), rfl, ⟨hR.st, hR.w1.o, hR.w2.o, hR.w3.o, hR.w4.o, hR.w5.o, hR.w6.o, hR.w7.o, hR.w8.o, hR.w9.o, hR.w10.o, hR.w11.o, hR.w12.o, hR.w13.o, hR.w14.o, hR.w15.o, hR.w16.o, hR.w17.o, (fun _ j hj => upd_on (hw j hj)), hR.w19.o, hR.w20.o, hR.w21.o, hR.f0.k, hR.f1.k, hR.f2.k, hR.f3.k, hR.f4.k, (fun _ => rfl), hR.f6.k, hR.f7.k, hR.f8.k, hR.f9.k, hR.f10.k, hR.f11.k, hR.f12.k, hR.f13.k, hR.f14.k, hR.f15.k, hR.f16.k, (fun _ => rfl), (fun _ => rfl), hR.f19.k, hR.f20.k, hR.f21.k⟩⟩
                    refine EachOf.cons [5, 11, 18] rfl (by kernel_rfl) ?_ ?_
                    · rintro L A W ⟨v, rfl, hR⟩ hi hw K hK
                      have e11 := hR.f11 (hw 11 (by simp))
                      have e18 := hR.f18 (hw 18 (by simp))
                      have e5 := hR.f5 (hw 5 (by simp))
                      simp only [e11, e18, e5]
                      clear e11 e18 e5
                      go_simp
                      refine hK.out _ _ ?_
                      exact ⟨(fun jz => if jz = 94 then .int .i64 x else if jz = 101 then .int .i64 y else if jz = 88 then .bool true else if jz = 102 then .bool true else v jz), rfl, ⟨hR.st, hR.w1.o, hR.w2.o, hR.w3.o, hR.w4.o, hR.w5.o, hR.w6.o, hR.w7.o, hR.w8.o, hR.w9.o, hR.w10.o, hR.w11.o, hR.w12.o, hR.w13.o, hR.w14.o, hR.w15.o, hR.w16.o, hR.w17.o, hR.w18.o, (fun _ j hj => upd_on (hw j hj)), hR.w20.o, hR.w21.o, hR.f0.k, hR.f1.k, hR.f2.k, hR.f3.k, hR.f4.k, (fun _ => rfl), hR.f6.k, hR.f7.k, hR.f8.k, hR.f9.k, hR.f10.k, (fun _ => rfl), hR.f12.k, hR.f13.k, hR.f14.k, hR.f15.k, hR.f16.k, hR.f17.k, (fun _ => rfl), (fun _ => rfl), hR.f20.k, hR.f21.k⟩⟩
                    refine EachOf.cons [2, 5, 19] rfl (by kernel_rfl) ?_ ?_
                    · rintro L A W ⟨v, rfl, hR⟩ hi hw K hK
                      have e5 := hR.f5 (hw 5 (by simp))
                      have e19 := hR.f19 (hw 19 (by simp))
                      have e2 := hR.f2 (hw 2 (by simp))
                      simp only [e5, e19, e2]
                      clear e5 e19 e2
                      go_simp
                      refine hK.out _ _ ?_
                      exact ⟨(fun jz => if jz = 88 then .bool true else if jz = 102 then .bool true else if jz = 85 then .bool false else if jz = 103 then .bool true else v jz), rfl, ⟨hR.st, hR.w1.o, hR.w2.o, hR.w3.o, hR.w4.o, hR.w5.o, hR.w6.o, hR.w7.o, hR.w8.o, hR.w9.o, hR.w10.o, hR.w11.o, hR.w12.o, hR.w13.o, hR.w14.o, hR.w15.o, hR.w16.o, hR.w17.o, hR.w18.o, hR.w19.o, (fun _ j hj => upd_on (hw j hj)), hR.w21.o, hR.f0.k, hR.f1.k, (fun _ => rfl), hR.f3.k, hR.f4.k, (fun _ => rfl), hR.f6.k, hR.f7.k, hR.f8.k, hR.f9.k, hR.f10.k, hR.f11.k, hR.f12.k, hR.f13.k, hR.f14.k, hR.f15.k, hR.f16.k, hR.f17.k, hR.f18.k, (fun _ => rfl), (fun _ => rfl), hR.f21.k⟩⟩
                    refine EachOf.cons [2, 20] rfl (by kernel_rfl) ?_ ?_
                    · rintro L A W ⟨v, rfl, hR⟩ hi hw K hK
                      have e2 := hR.f2 (hw 2 (by simp))
                      have e20 := hR.f20 (hw 20 (by simp))
                      simp only [e2, e20]
                      clear e2 e20
                      go_simp
                      refine hK.out _ _ ?_
                      exact ⟨(fun jz => if jz = 85 then .bool false else if jz = 103 then .bool true else if jz = 104 then .bool true else v jz), rfl, ⟨hR.st, hR.w1.o, hR.w2.o, hR.w3.o, hR.w4.o, hR.w5.o, hR.w6.o, hR.w7.o, hR.w8.o, hR.w9.o, hR.w10.o, hR.w11.o, hR.w12.o, hR.w13.o, hR.w14.o, hR.w15.o, hR.w16.o, hR.w17.o, hR.w18.o, hR.w19.o, hR.w20.o, (fun _ j hj => upd_on (hw j hj)), hR.f0.k, hR.f1.k, (fun _ => rfl), hR.f3.k, hR.f4.k, hR.f5.k, hR.f6.k, hR.f7.k, hR.f8.k, hR.f9.k, hR.f10.k, hR.f11.k, hR.f12.k, hR.f13.k, hR.f14.k, hR.f15.k, hR.f16.k, hR.f17.k, hR.f18.k, hR.f19.k, (fun _ => rfl), (fun _ => rfl)⟩⟩
                    exact EachOf.nil
                  · rintro L A W ⟨v, rfl, hR⟩ hall
                    have hst := Lib.hid hR.st
                    have e21 := hR.f21 (hall 21 (by simp))
                    simp only [e21]
                    clear hR e21 hall
                    go_wp2_with fail
                    go_ret
                    exact ⟨below_on HB.out hst.out, by (first | rfl | (rw [hb]; rfl) | rw [hb])⟩
                · have q5 : decide (nth (rowZ zss i) 0 < nth (rowZ zss im) 0) = false := decide_eq_false hord
                  have T3 : Hid (ChkP n f zss (i + 1)) := TI.out.pre.succ hbal (by rw [hle]; omega) TI.out.dis
                  generalize nth (rowZ zss i) 0 = x at *
                  generalize nth (rowZ zss im) 0 = y at *
                  generalize hU2 : szN n (metZ n zss (i + 1)) = u2 at *
                  have HU2 := Lib.hid hU2
                  clear HQ2 hqc hbal hs0 hsum ek hNr hup TI hi0 p0 p7 p8 hpc3 hq7 hbp hrc hord hle him hU2
                  go_upto_region 18 with fail
                  refine wp_region_each (fun L A W => ∃ (v : Nat → Value), A = ⟨#[_, _, _, _, _, _, _, _, _, _, _, _, _, _, _, _, _, _, _, _, _, _, _, _, _, _, _, _, _, _, _, _, _, _, _, _, _, _, _, _, _, _, _, _, _, _, _, _, _, _, _, _, _, _, _, _, _, _, _, _, _, _, _, _, _, _, _, _, _, _, _, _, _, _, _, _, _, _, _, _, _, _, _, v 83, v 84, v 85, v 86, v 87, v 88, v 89, v 90, v 91, v 92, v 93, v 94, v 95, v 96, v 97, v 98, v 99, v 100, v 101, v 102, v 103, v 104, _, _, _, _], []⟩ ∧ RccR pg po zss.length pc i qg qo N1 qc2 rg ro N0 rc im 0 x y false true W2 L v W) (by kernel_rfl) (by kernel_rfl) ⟨fun jz => if jz = 83 then u83 else if jz = 84 then u84 else if jz = 85 then u85 else if jz = 86 then u86 else if jz = 87 then u87 else if jz = 88 then u88 else if jz = 89 then u89 else if jz = 90 then u90 else if jz = 91 then u91 else if jz = 92 then u92 else if jz = 93 then u93 else if jz = 94 then u94 else if jz = 95 then u95 else if jz = 96 then u96 else if jz = 97 then u97 else if jz = 98 then u98 else if jz = 99 then u99 else if jz = 100 then u100 else if jz = 101 then u101 else if jz = 102 then u102 else if jz = 103 then u103 else if jz = 104 then u104 else undef, rfl, ⟨Below.drew (Below.refl _ _), Had.none, Had.none, Had.none, Had.none, Had.none, Had.none, Had.none, Had.none, Had.none, Had.none, Had.none, Had.none, Had.none, Had.none, Had.none, Had.none, Had.none, Had.none, Had.none, Had.none, Had.none, Had.none, Had.none, Had.none, Had.none, Had.none, Had.none, Had.none, Had.none, Had.none, Had.none, Had.none, Had.none, Had.none, Had.none, Had.none, Had.none, Had.none, Had.none, Had.none, Had.none, Had.none, Had.none⟩⟩ (rs := [0, 1, 2, 3, 4, 5, 6, 7, 8, 9, 10, 11, 12, 13, 14, 15, 16, 17, 18, 19, 20, 21]) (by kernel_rfl) ?_ ?_
                  · refine EachOf.cons [] rfl (by kernel_rfl) ?_ ?_
                    · rintro L A W ⟨v, rfl, hR⟩ hi hw K hK
                      go_simp
                      refine hK.out _ _ ?_
                      exact ⟨(fun jz => if jz = 83 then .int .i64 0 else v jz), rfl, ⟨hR.st, hR.w1.o, hR.w2.o, hR.w3.o, hR.w4.o, hR.w5.o, hR.w6.o, hR.w7.o, hR.w8.o, hR.w9.o, hR.w10.o, hR.w11.o, hR.w12.o, hR.w13.o, hR.w14.o, hR.w15.o, hR.w16.o, hR.w17.o, hR.w18.o, hR.w19.o, hR.w20.o, hR.w21.o, (fun _ => rfl), hR.f1.k, hR.f2.k, hR.f3.k, hR.f4.k, hR.f5.k, hR.f6.k, hR.f7.k, hR.f8.k, hR.f9.k, hR.f10.k, hR.f11.k, hR.f12.k, hR.f13.k, hR.f14.k, hR.f15.k, hR.f16.k, hR.f17.k, hR.f18.k, hR.f19.k, hR.f20.k, hR.f21.k⟩⟩
                    refine EachOf.cons [0] rfl (by kernel_rfl) ?_ ?_
                    · rintro L A W ⟨v, rfl, hR⟩ hi hw K hK
                      have e0 := hR.f0 (hw 0 (by simp))
                      simp only [e0]
                      clear e0
                      go_simp
                      refine hK.out _ _ ?_
                      exact ⟨(fun jz => if jz = 83 then .int .i64 0 else if jz = 84 then .bool false else v jz), rfl, ⟨hR.st, (fun _ j hj => upd_on (hw j hj)), hR.w2.o, hR.w3.o, hR.w4.o, hR.w5.o, hR.w6.o, hR.w7.o, hR.w8.o, hR.w9.o, hR.w10.o, hR.w11.o, hR.w12.o, hR.w13.o, hR.w14.o, hR.w15.o, hR.w16.o, hR.w17.o, hR.w18.o, hR.w19.o, hR.w20.o, hR.w21.o, (fun _ => rfl), (fun _ => rfl), hR.f2.k, hR.f3.k, hR.f4.k, hR.f5.k, hR.f6.k, hR.f7.k, hR.f8.k, hR.f9.k, hR.f10.k, hR.f11.k, hR.f12.k, hR.f13.k, hR.f14.k, hR.f15.k, hR.f16.k, hR.f17.k, hR.f18.k, hR.f19.k, hR.f20.k, hR.f21.k⟩⟩
                    refine EachOf.cons [1] rfl (by kernel_rfl) ?_ ?_
                    · rintro L A W ⟨v, rfl, hR⟩ hi hw K hK
                      have e1 := hR.f1 (hw 1 (by simp))
                      simp only [e1]
                      clear e1
                      go_simp
                      refine hK.out _ _ ?_
                      exact ⟨(fun jz => if jz = 84 then .bool false else if jz = 85 then .bool false else v jz), rfl, ⟨hR.st, hR.w1.o, (fun _ j hj => upd_on (hw j hj)), hR.w3.o, hR.w4.o, hR.w5.o, hR.w6.o, hR.w7.o, hR.w8.o, hR.w9.o, hR.w10.o, hR.w11.o, hR.w12.o, hR.w13.o, hR.w14.o, hR.w15.o, hR.w16.o, hR.w17.o, hR.w18.o, hR.w19.o, hR.w20.o, hR.w21.o, hR.f0.k, (fun _ => rfl), (fun _ => rfl), hR.f3.k, hR.f4.k, hR.f5.k, hR.f6.k, hR.f7.k, hR.f8.k, hR.f9.k, hR.f10.k, hR.f11.k, hR.f12.k, hR.f13.k, hR.f14.k, hR.f15.k, hR.f16.k, hR.f17.k, hR.f18.k, hR.f19.k, hR.f20.k, hR.f21.k⟩⟩
                    refine EachOf.cons [2] rfl (by kernel_rfl) ?_ ?_
                    · rintro L A W ⟨v, rfl, hR⟩ hi hw K hK
                      have e2 := hR.f2 (hw 2 (by simp))
                      simp only [e2]
                      clear e2
                      go_simp
                      refine hK.out _ _ ?_
                      exact ⟨(fun jz => if jz = 85 then .bool false else if jz = 86 then .int .i64 (i : Int) else v jz), rfl, ⟨hR.st, hR.w1.o, hR.w2.o, (fun _ j hj => upd_on (hw j hj)), hR.w4.o, hR.w5.o, hR.w6.o, hR.w7.o, hR.w8.o, hR.w9.o, hR.w10.o, hR.w11.o, hR.w12.o, hR.w13.o, hR.w14.o, hR.w15.o, hR.w16.o, hR.w17.o, hR.w18.o, hR.w19.o, hR.w20.o, hR.w21.o, hR.f0.k, hR.f1.k, (fun _ => rfl), (fun _ => rfl), hR.f4.k, hR.f5.k, hR.f6.k, hR.f7.k, hR.f8.k, hR.f9.k, hR.f10.k, hR.f11.k, hR.f12.k, hR.f13.k, hR.f14.k, hR.f15.k, hR.f16.k, hR.f17.k, hR.f18.k, hR.f19.k, hR.f20.k, hR.f21.k⟩⟩
                    refine EachOf.cons [2, 3] rfl (by kernel_rfl) ?_ ?_
                    · rintro L A W ⟨v, rfl, hR⟩ hi hw K hK
                      have e3 := hR.f3 (hw 3 (by simp))
                      have e2 := hR.f2 (hw 2 (by simp))
                      simp only [e3, e2]
                      clear e3 e2
                      go_simp
                      refine hK.out _ _ ?_
                      exact ⟨(fun jz => if jz = 86 then .int .i64 (i : Int) else if jz = 85 then .bool false else if jz = 87 then .bool true else v jz), rfl, ⟨hR.st, hR.w1.o, hR.w2.o, hR.w3.o, (fun _ j hj => upd_on (hw j hj)), hR.w5.o, hR.w6.o, hR.w7.o, hR.w8.o, hR.w9.o, hR.w10.o, hR.w11.o, hR.w12.o, hR.w13.o, hR.w14.o, hR.w15.o, hR.w16.o, hR.w17.o, hR.w18.o, hR.w19.o, hR.w20.o, hR.w21.o, hR.f0.k, hR.f1.k, (fun _ => rfl), (fun _ => rfl), (fun _ => rfl), hR.f5.k, hR.f6.k, hR.f7.k, hR.f8.k, hR.f9.k, hR.f10.k, hR.f11.k, hR.f12.k, hR.f13.k, hR.f14.k, hR.f15.k, hR.f16.k, hR.f17.k, hR.f18.k, hR.f19.k, hR.f20.k, hR.f21.k⟩⟩
                    refine EachOf.cons [2, 4] rfl (by kernel_rfl) ?_ ?_
                    · rintro L A W ⟨v, rfl, hR⟩ hi hw K hK
                      have e4 := hR.f4 (hw 4 (by simp))
                      have e2 := hR.f2 (hw 2 (by simp))
                      simp only [e4, e2]
                      clear e4 e2
                      go_simp
                      refine hK.out _ _ ?_
                      exact ⟨(fun jz => if jz = 87 then .bool true else if jz = 85 then .bool false else if jz = 88 then .bool true else v jz), rfl, ⟨hR.st, hR.w1.o, hR.w2.o, hR.w3.o, hR.w4.o, (fun _ j hj => upd_on (hw j hj)), hR.w6.o, hR.w7.o, hR.w8.o, hR.w9.o, hR.w10.o, hR.w11.o, hR.w12.o, hR.w13.o, hR.w14.o, hR.w15.o, hR.w16.o, hR.w17.o, hR.w18.o, hR.w19.o, hR.w20.o, hR.w21.o, hR.f0.k, hR.f1.k, (fun _ => rfl), hR.f3.k, (fun _ => rfl), (fun _ => rfl), hR.f6.k, hR.f7.k, hR.f8.k, hR.f9.k, hR.f10.k, hR.f11.k, hR.f12.k, hR.f13.k, hR.f14.k, hR.f15.k, hR.f16.k, hR.f17.k, hR.f18.k, hR.f19.k, hR.f20.k, hR.f21.k⟩⟩
                    refine EachOf.cons [5] rfl (by kernel_rfl) ?_ ?_
                    · rintro L A W ⟨v, rfl, hR⟩ hi hw K hK
                      have e5 := hR.f5 (hw 5 (by simp))
                      simp only [e5]
                      clear e5
                      go_simp
                      refine hK.out _ _ ?_
                      exact ⟨(fun jz => if jz = 88 then .bool true else if jz = 89 then .slice (some ⟨pg, po, none⟩) (zss.length) (pc) else v jz), rfl, ⟨hR.st, hR.w1.o, hR.w2.o, hR.w3.o, hR.w4.o, hR.w5.o, (fun _ j hj => upd_on (hw j hj)), hR.w7.o, hR.w8.o, hR.w9.o, hR.w10.o, hR.w11.o, hR.w12.o, hR.w13.o, hR.w14.o, hR.w15.o, hR.w16.o, hR.w17.o, hR.w18.o, hR.w19.o, hR.w20.o, hR.w21.o, hR.f0.k, hR.f1.k, hR.f2.k, hR.f3.k, hR.f4.k, (fun _ => rfl), (fun _ => rfl), hR.f7.k, hR.f8.k, hR.f9.k, hR.f10.k, hR.f11.k, hR.f12.k, hR.f13.k, hR.f14.k, hR.f15.k, hR.f16.k, hR.f17.k, hR.f18.k, hR.f19.k, hR.f20.k, hR.f21.k⟩⟩
                    refine EachOf.cons [5] rfl (by kernel_rfl) ?_ ?_
                    · rintro L A W ⟨v, rfl, hR⟩ hi hw K hK
                      have e5 := hR.f5 (hw 5 (by simp))
                      simp only [e5]
                      clear e5
                      go_simp
                      refine hK.out _ _ ?_
                      exact ⟨(fun jz => if jz = 88 then .bool true else if jz = 90 then .int .i64 (i : Int) else v jz), rfl, ⟨hR.st, hR.w1.o, hR.w2.o, hR.w3.o, hR.w4.o, hR.w5.o, hR.w6.o, (fun _ j hj => upd_on (hw j hj)), hR.w8.o, hR.w9.o, hR.w10.o, hR.w11.o, hR.w12.o, hR.w13.o, hR.w14.o, hR.w15.o, hR.w16.o, hR.w17.o, hR.w18.o, hR.w19.o, hR.w20.o, hR.w21.o, hR.f0.k, hR.f1.k, hR.f2.k, hR.f3.k, hR.f4.k, (fun _ => rfl), hR.f6.k, (fun _ => rfl), hR.f8.k, hR.f9.k, hR.f10.k, hR.f11.k, hR.f12.k, hR.f13.k, hR.f14.k, hR.f15.k, hR.f16.k, hR.f17.k, hR.f18.k, hR.f19.k, hR.f20.k, hR.f21.k⟩⟩
                    refine EachOf.cons [5, 6, 7] rfl (by kernel_rfl) ?_ ?_
                    · rintro L A W ⟨v, rfl, hR⟩ hi hw K hK
                      have e6 := hR.f6 (hw 6 (by simp))
                      have e7 := hR.f7 (hw 7 (by simp))
                      have e5 := hR.f5 (hw 5 (by simp))
                      simp only [e6, e7, e5]
                      clear e6 e7 e5
                      go_simp
                      refine hK.out _ _ ?_
                      exact ⟨(fun jz => if jz = 89 then .slice (some ⟨pg, po, none⟩) (zss.length) (pc) else if jz = 90 then .int .i64 (i : Int) else if jz = 88 then .bool true else if jz = 91 then .pointer (some ⟨pg, po + i, none⟩) else v jz), rfl, ⟨hR.st, hR.w1.o, hR.w2.o, hR.w3.o, hR.w4.o, hR.w5.o, hR.w6.o, hR.w7.o, (fun _ j hj => upd_on (hw j hj)), hR.w9.o, hR.w10.o, hR.w11.o, hR.w12.o, hR.w13.o, hR.w14.o, hR.w15.o, hR.w16.o, hR.w17.o, hR.w18.o, hR.w19.o, hR.w20.o, hR.w21.o, hR.f0.k, hR.f1.k, hR.f2.k, hR.f3.k, hR.f4.k, (fun _ => rfl), (fun _ => rfl), (fun _ => rfl), (fun _ => rfl), hR.f9.k, hR.f10.k, hR.f11.k, hR.f12.k, hR.f13.k, hR.f14.k, hR.f15.k, hR.f16.k, hR.f17.k, hR.f18.k, hR.f19.k, hR.f20.k, hR.f21.k⟩⟩
                    refine EachOf.cons [5, 8] rfl (by kernel_rfl) ?_ ?_
                    · rintro L A W ⟨v, rfl, hR⟩ hi hw K hK
                      have e8 := hR.f8 (hw 8 (by simp))
                      have e5 := hR.f5 (hw 5 (by simp))
                      simp only [e8, e5]
                      clear e8 e5
                      have q0 := (hR.st.cell (p := ⟨pg, po + i, none⟩) LQ.out.2).trans LQ.out.1
                      go_simp
                      refine hK.out _ _ ?_
                      exact ⟨(fun jz => if jz = 91 then .pointer (some ⟨pg, po + i, none⟩) else if jz = 88 then .bool true else if jz = 92 then .slice (some ⟨qg, qo, none⟩) (N1) (qc2) else v jz), rfl, ⟨hR.st, hR.w1.o, hR.w2.o, hR.w3.o, hR.w4.o, hR.w5.o, hR.w6.o, hR.w7.o, hR.w8.o, (fun _ j hj => upd_on (hw j hj)), hR.w10.o, hR.w11.o, hR.w12.o, hR.w13.o, hR.w14.o, hR.w15.o, hR.w16.o, hR.w17.o, hR.w18.o, hR.w19.o, hR.w20.o, hR.w21.o, hR.f0.k, hR.f1.k, hR.f2.k, hR.f3.k, hR.f4.k, (fun _ => rfl), hR.f6.k, hR.f7.k, (fun _ => rfl), (fun _ => rfl), hR.f10.k, hR.f11.k, hR.f12.k, hR.f13.k, hR.f14.k, hR.f15.k, hR.f16.k, hR.f17.k, hR.f18.k, hR.f19.k, hR.f20.k, hR.f21.k⟩⟩
                    refine EachOf.cons [5, 9] rfl (by kernel_rfl) ?_ ?_
                    · rintro L A W ⟨v, rfl, hR⟩ hi hw K hK
                      have e9 := hR.f9 (hw 9 (by simp))
                      have e5 := hR.f5 (hw 5 (by simp))
                      simp only [e9, e5]
                      clear e9 e5
                      go_simp
                      refine hK.out _ _ ?_
                      exact ⟨(fun jz => if jz = 92 then .slice (some ⟨qg, qo, none⟩) (N1) (qc2) else if jz = 88 then .bool true else if jz = 93 then .pointer (some ⟨qg, qo, none⟩) else v jz), rfl, ⟨hR.st, hR.w1.o, hR.w2.o, hR.w3.o, hR.w4.o, hR.w5.o, hR.w6.o, hR.w7.o, hR.w8.o, hR.w9.o, (fun _ j hj => upd_on (hw j hj)), hR.w11.o, hR.w12.o, hR.w13.o, hR.w14.o, hR.w15.o, hR.w16.o, hR.w17.o, hR.w18.o, hR.w19.o, hR.w20.o, hR.w21.o, hR.f0.k, hR.f1.k, hR.f2.k, hR.f3.k, hR.f4.k, (fun _ => rfl), hR.f6.k, hR.f7.k, hR.f8.k, (fun _ => rfl), (fun _ => rfl), hR.f11.k, hR.f12.k, hR.f13.k, hR.f14.k, hR.f15.k, hR.f16.k, hR.f17.k, hR.f18.k, hR.f19.k, hR.f20.k, hR.f21.k⟩⟩
                    refine EachOf.cons [5, 10] rfl (by kernel_rfl) ?_ ?_
                    · rintro L A W ⟨v, rfl, hR⟩ hi hw K hK
                      have e10 := hR.f10 (hw 10 (by simp))
                      have e5 := hR.f5 (hw 5 (by simp))
                      simp only [e10, e5]
                      clear e10 e5
                      have q0 := (hR.st.cell (p := ⟨qg, qo, none⟩) LX.out.2).trans LX.out.1
                      go_simp
                      refine hK.out _ _ ?_
                      exact ⟨(fun jz => if jz = 93 then .pointer (some ⟨qg, qo, none⟩) else if jz = 88 then .bool true else if jz = 94 then .int .i64 x else v jz), rfl, ⟨hR.st, hR.w1.o, hR.w2.o, hR.w3.o, hR.w4.o, hR.w5.o, hR.w6.o, hR.w7.o, hR.w8.o, hR.w9.o, hR.w10.o, (fun _ j hj => upd_on (hw j hj)), hR.w12.o, hR.w13.o, hR.w14.o, hR.w15.o, hR.w16.o, hR.w17.o, hR.w18.o, hR.w19.o, hR.w20.o, hR.w21.o, hR.f0.k, hR.f1.k, hR.f2.k, hR.f3.k, hR.f4.k, (fun _ => rfl), hR.f6.k, hR.f7.k, hR.f8.k, hR.f9.k, (fun _ => rfl), (fun _ => rfl), hR.f12.k, hR.f13.k, hR.f14.k, hR.f15.k, hR.f16.k, hR.f17.k, hR.f18.k, hR.f19.k, hR.f20.k, hR.f21.k⟩⟩
                    refine EachOf.cons [5] rfl (by kernel_rfl) ?_ ?_
                    · rintro L A W ⟨v, rfl, hR⟩ hi hw K hK
                      have e5 := hR.f5 (hw 5 (by simp))
                      simp only [e5]
                      clear e5
                      go_simp
                      refine hK.out _ _ ?_
                      exact ⟨(fun jz => if jz = 88 then .bool true else if jz = 95 then .slice (some ⟨pg, po, none⟩) (zss.length) (pc) else v jz), rfl, ⟨hR.st, hR.w1.o, hR.w2.o, hR.w3.o, hR.w4.o, hR.w5.o, hR.w6.o, hR.w7.o, hR.w8.o, hR.w9.o, hR.w10.o, hR.w11.o, (fun _ j hj => upd_on (hw j hj)), hR.w13.o, hR.w14.o, hR.w15.o, hR.w16.o, hR.w17.o, hR.w18.o, hR.w19.o, hR.w20.o, hR.w21.o, hR.f0.k, hR.f1.k, hR.f2.k, hR.f3.k, hR.f4.k, (fun _ => rfl), hR.f6.k, hR.f7.k, hR.f8.k, hR.f9.k, hR.f10.k, hR.f11.k, (fun _ => rfl), hR.f13.k, hR.f14.k, hR.f15.k, hR.f16.k, hR.f17.k, hR.f18.k, hR.f19.k, hR.f20.k, hR.f21.k⟩⟩
                    refine EachOf.cons [5] rfl (by kernel_rfl) ?_ ?_
                    · rintro L A W ⟨v, rfl, hR⟩ hi hw K hK
                      have e5 := hR.f5 (hw 5 (by simp))
                      simp only [e5]
                      clear e5
                      go_simp
                      refine hK.out _ _ ?_
                      exact ⟨(fun jz => if jz = 88 then .bool true else if jz = 96 then .int .i64 (i : Int) else v jz), rfl, ⟨hR.st, hR.w1.o, hR.w2.o, hR.w3.o, hR.w4.o, hR.w5.o, hR.w6.o, hR.w7.o, hR.w8.o, hR.w9.o, hR.w10.o, hR.w11.o, hR.w12.o, (fun _ j hj => upd_on (hw j hj)), hR.w14.o, hR.w15.o, hR.w16.o, hR.w17.o, hR.w18.o, hR.w19.o, hR.w20.o, hR.w21.o, hR.f0.k, hR.f1.k, hR.f2.k, hR.f3.k, hR.f4.k, (fun _ => rfl), hR.f6.k, hR.f7.k, hR.f8.k, hR.f9.k, hR.f10.k, hR.f11.k, hR.f12.k, (fun _ => rfl), hR.f14.k, hR.f15.k, hR.f16.k, hR.f17.k, hR.f18.k, hR.f19.k, hR.f20.k, hR.f21.k⟩⟩
                    refine EachOf.cons [5, 13] rfl (by kernel_rfl) ?_ ?_
                    · rintro L A W ⟨v, rfl, hR⟩ hi hw K hK
                      have e13 := hR.f13 (hw 13 (by simp))
                      have e5 := hR.f5 (hw 5 (by simp))
                      simp only [e13, e5]
                      clear e13 e5
                      go_simp
                      refine hK.out _ _ ?_
                      exact ⟨(fun jz => if jz = 96 then .int .i64 (i : Int) else if jz = 88 then .bool true else if jz = 97 then .int .i64 (im : Int) else v jz), rfl, ⟨hR.st, hR.w1.o, hR.w2.o, hR.w3.o, hR.w4.o, hR.w5.o, hR.w6.o, hR.w7.o, hR.w8.o, hR.w9.o, hR.w10.o, hR.w11.o, hR.w12.o, hR.w13.o, (fun _ j hj => upd_on (hw j hj)), hR.w15.o, hR.w16.o, hR.w17.o, hR.w18.o, hR.w19.o, hR.w20.o, hR.w21.o, hR.f0.k, hR.f1.k, hR.f2.k, hR.f3.k, hR.f4.k, (fun _ => rfl), hR.f6.k, hR.f7.k, hR.f8.k, hR.f9.k, hR.f10.k, hR.f11.k, hR.f12.k, (fun _ => rfl), (fun _ => rfl), hR.f15.k, hR.f16.k, hR.f17.k, hR.f18.k, hR.f19.k, hR.f20.k, hR.f21.k⟩⟩
                    refine EachOf.cons [5, 12, 14] rfl (by kernel_rfl) ?_ ?_
                    · rintro L A W ⟨v, rfl, hR⟩ hi hw K hK
                      have e12 := hR.f12 (hw 12 (by simp))
                      have e14 := hR.f14 (hw 14 (by simp))
                      have e5 := hR.f5 (hw 5 (by simp))
                      simp only [e12, e14, e5]
                      clear e12 e14 e5
                      go_simp
                      refine hK.out _ _ ?_
                      exact ⟨(fun jz => if jz = 95 then .slice (some ⟨pg, po, none⟩) (zss.length) (pc) else if jz = 97 then .int .i64 (im : Int) else if jz = 88 then .bool true else if jz = 98 then .pointer (some ⟨pg, po + im, none⟩) else v jz), rfl, ⟨hR.st, hR.w1.o, hR.w2.o, hR.w3.o, hR.w4.o, hR.w5.o, hR.w6.o, hR.w7.o, hR.w8.o, hR.w9.o, hR.w10.o, hR.w11.o, hR.w12.o, hR.w13.o, hR.w14.o, (fun _ j hj => upd_on (hw j hj)), hR.w16.o, hR.w17.o, hR.w18.o, hR.w19.o, hR.w20.o, hR.w21.o, hR.f0.k, hR.f1.k, hR.f2.k, hR.f3.k, hR.f4.k, (fun _ => rfl), hR.f6.k, hR.f7.k, hR.f8.k, hR.f9.k, hR.f10.k, hR.f11.k, (fun _ => rfl), hR.f13.k, (fun _ => rfl), (fun _ => rfl), hR.f16.k, hR.f17.k, hR.f18.k, hR.f19.k, hR.f20.k, hR.f21.k⟩⟩
                    refine EachOf.cons [5, 15] rfl (by kernel_rfl) ?_ ?_
                    · rintro L A W ⟨v, rfl, hR⟩ hi hw K hK
                      have e15 := hR.f15 (hw 15 (by simp))
                      have e5 := hR.f5 (hw 5 (by simp))
                      simp only [e15, e5]
                      clear e15 e5
                      have q0 := (hR.st.cell (p := ⟨pg, po + im, none⟩) LR.out.2).trans LR.out.1
                      go_simp
                      refine hK.out _ _ ?_
                      exact ⟨(fun jz => if jz = 98 then .pointer (some ⟨pg, po + im, none⟩) else if jz = 88 then .bool true else if jz = 99 then .slice (some ⟨rg, ro, none⟩) (N0) (rc) else v jz), rfl, ⟨hR.st, hR.w1.o, hR.w2.o, hR.w3.o, hR.w4.o, hR.w5.o, hR.w6.o, hR.w7.o, hR.w8.o, hR.w9.o, hR.w10.o, hR.w11.o, hR.w12.o, hR.w13.o, hR.w14.o, hR.w15.o, (fun _ j hj => upd_on (hw j hj)), hR.w17.o, hR.w18.o, hR.w19.o, hR.w20.o, hR.w21.o, hR.f0.k, hR.f1.k, hR.f2.k, hR.f3.k, hR.f4.k, (fun _ => rfl), hR.f6.k, hR.f7.k, hR.f8.k, hR.f9.k, hR.f10.k, hR.f11.k, hR.f12.k, hR.f13.k, hR.f14.k, (fun _ => rfl), (fun _ => rfl), hR.f17.k, hR.f18.k, hR.f19.k, hR.f20.k, hR.f21.k⟩⟩
                    refine EachOf.cons [5, 16] rfl (by kernel_rfl) ?_ ?_
                    · rintro L A W ⟨v, rfl, hR⟩ hi hw K hK
                      have e16 := hR.f16 (hw 16 (by simp))
                      have e5 := hR.f5 (hw 5 (by simp))
                      simp only [e16, e5]
                      clear e16 e5
                      go_simp
                      refine hK.out _ _ ?_
                      exact ⟨(fun jz => if jz = 99 then .slice (some ⟨rg, ro, none⟩) (N0) (rc) else if jz = 88 then .bool true else if jz = 100 then .pointer (some ⟨rg, ro, none⟩) else v jz), rfl, ⟨hR.st, hR.w1.o, hR.w2.o, hR.w3.o, hR.w4.o, hR.w5.o, hR.w6.o, hR.w7.o, hR.w8.o, hR.w9.o, hR.w10.o, hR.w11.o, hR.w12.o, hR.w13.o, hR.w14.o, hR.w15.o, hR.w16.o, (fun _ j hj => upd_on (hw j hj)), hR.w18.o, hR.w19.o, hR.w20.o, hR.w21.o, hR.f0.k, hR.f1.k, hR.f2.k, hR.f3.k, hR.f4.k, (fun _ => rfl), hR.f6.k, hR.f7.k, hR.f8.k, hR.f9.k, hR.f10.k, hR.f11.k, hR.f12.k, hR.f13.k, hR.f14.k, hR.f15.k, (fun _ => rfl), (fun _ => rfl), hR.f18.k, hR.f19.k, hR.f20.k, hR.f21.k⟩⟩
                    refine EachOf.cons [5, 17] rfl (by kernel_rfl) ?_ ?_
                    · rintro L A W ⟨v, rfl, hR⟩ hi hw K hK
                      have e17 := hR.f17 (hw 17 (by simp))
                      have e5 := hR.f5 (hw 5 (by simp))
                      simp only [e17, e5]
                      clear e17 e5
                      have q0 := (hR.st.cell (p := ⟨rg, ro, none⟩) LY.out.2).trans LY.out.1
                      go_simp
                      refine hK.out _ _ ?_
                      exact ⟨(fun jz => if jz = 100 then .pointer (some ⟨rg, ro, none⟩) else if jz = 88 then .bool true else if jz = 101 then .int .i64 y else v jz), rfl, ⟨hR.st, hR.w1.o, hR.w2.o, hR.w3.o, hR.w4.o, hR.w5.o, hR.w6.o, hR.w7.o, hR.w8.o, hR.w9.o, hR.w10.o, hR.w11.o, hR.w12.o, hR.w13.o, hR.w14.o, hR.w15.o, hR.w16.o, hR.w17.o, (fun _ j hj => upd_on (hw j hj)), hR.w19.o, hR.w20.o, hR.w21.o, hR.f0.k, hR.f1.k, hR.f2.k, hR.f3.k, hR.f4.k, (fun _ => rfl), hR.f6.k, hR.f7.k, hR.f8.k, hR.f9.k, hR.f10.k, hR.f11.k, hR.f12.k, hR.f13.k, hR.f14.k, hR.f15.k, hR.f16.k, (fun _ => rfl), (fun _ => rfl), hR.f19.k, hR.f20.k, hR.f21.k⟩⟩
                    refine EachOf.cons [5, 11, 18] rfl (by kernel_rfl) ?_ ?_
                    · rintro L A W ⟨v, rfl, hR⟩ hi hw K hK
                      have e11 := hR.f11 (hw 11 (by simp))
                      have e18 := hR.f18 (hw 18 (by simp))
                      have e5 := hR.f5 (hw 5 (by simp))
                      simp only [e11, e18, e5]
                      clear e11 e18 e5
                      go_simp
                      refine hK.out _ _ ?_
                      exact ⟨(fun jz => if jz = 94 then .int .i64 x else if jz = 101 then .int .i64 y else if jz = 88 then .bool true else if jz = 102 then .bool false else v jz), rfl, ⟨hR.st, hR.w1.o, hR.w2.o, hR.w3.o, hR.w4.o, hR.w5.o, hR.w6.o, hR.w7.o, hR.w8.o, hR.w9.o, hR.w10.o, hR.w11.o, hR.w12.o, hR.w13.o, hR.w14.o, hR.w15.o, hR.w16.o, hR.w17.o, hR.w18.o, (fun _ j hj => upd_on (hw j hj)), hR.w20.o, hR.w21.o, hR.f0.k, hR.f1.k, hR.f2.k, hR.f3.k, hR.f4.k, (fun _ => rfl), hR.f6.k, hR.f7.k, hR.f8.k, hR.f9.k, hR.f10.k, (fun _ => rfl), hR.f12.k, hR.f13.k, hR.f14.k, hR.f15.k, hR.f16.k, hR.f17.k, (fun _ => rfl), (fun _ => rfl), hR.f20.k, hR.f21.k⟩⟩
                    refine EachOf.cons [2, 5, 19] rfl (by kernel_rfl) ?_ ?_
                    · rintro L A W ⟨v, rfl, hR⟩ hi hw K hK
                      have e5 := hR.f5 (hw 5 (by simp))
                      have e19 := hR.f19 (hw 19 (by simp))
                      have e2 := hR.f2 (hw 2 (by simp))
                      simp only [e5, e19, e2]
                      clear e5 e19 e2
                      go_simp
                      refine hK.out _ _ ?_
                      exact ⟨(fun jz => if jz = 88 then .bool true else if jz = 102 then .bool false else if jz = 85 then .bool false else if jz = 103 then .bool false else v jz), rfl, ⟨hR.st, hR.w1.o, hR.w2.o, hR.w3.o, hR.w4.o, hR.w5.o, hR.w6.o, hR.w7.o, hR.w8.o, hR.w9.o, hR.w10.o, hR.w11.o, hR.w12.o, hR.w13.o, hR.w14.o, hR.w15.o, hR.w16.o, hR.w17.o, hR.w18.o, hR.w19.o, (fun _ j hj => upd_on (hw j hj)), hR.w21.o, hR.f0.k, hR.f1.k, (fun _ => rfl), hR.f3.k, hR.f4.k, (fun _ => rfl), hR.f6.k, hR.f7.k, hR.f8.k, hR.f9.k, hR.f10.k, hR.f11.k, hR.f12.k, hR.f13.k, hR.f14.k, hR.f15.k, hR.f16.k, hR.f17.k, hR.f18.k, (fun _ => rfl), (fun _ => rfl), hR.f21.k⟩⟩
                    refine EachOf.cons [2, 20] rfl (by kernel_rfl) ?_ ?_
                    · rintro L A W ⟨v, rfl, hR⟩ hi hw K hK
                      have e2 := hR.f2 (hw 2 (by simp))
                      have e20 := hR.f20 (hw 20 (by simp))
                      simp only [e2, e20]
                      clear e2 e20
                      go_simp
                      refine hK.out _ _ ?_
                      exact ⟨(fun jz => if jz = 85 then .bool false else if jz = 103 then .bool false else if jz = 104 then .bool false else v jz), rfl, ⟨hR.st, hR.w1.o, hR.w2.o, hR.w3.o, hR.w4.o, hR.w5.o, hR.w6.o, hR.w7.o, hR.w8.o, hR.w9.o, hR.w10.o, hR.w11.o, hR.w12.o, hR.w13.o, hR.w14.o, hR.w15.o, hR.w16.o, hR.w17.o, hR.w18.o, hR.w19.o, hR.w20.o, (fun _ j hj => upd_on (hw j hj)), hR.f0.k, hR.f1.k, (fun _ => rfl), hR.f3.k, hR.f4.k, hR.f5.k, hR.f6.k, hR.f7.k, hR.f8.k, hR.f9.k, hR.f10.k, hR.f11.k, hR.f12.k, hR.f13.k, hR.f14.k, hR.f15.k, hR.f16.k, hR.f17.k, hR.f18.k, hR.f19.k, (fun _ => rfl), (fun _ => rfl)⟩⟩
                    exact EachOf.nil
                  · rintro L A W ⟨v, rfl, hR⟩ hall
                    have hst := Lib.hid hR.st
                    have e21 := hR.f21 (hall 21 (by simp))
                    simp only [e21]
                    clear hR e21 hall
                    go_wp2_with fail
                    go_roundg (zss.length - (i + 1))
                    case measure => omega
                    case rel => exact ⟨i + 1, rfl, by rw [HU2.out], rfl, by omega, below_on HB.out hst.out, BR.out.on hst.out, T3.out⟩
            · have q6 : (sumZ f (rowZ zss i) k != 0) = true := by simpa using hs0
              have hb : decide (ChkS n f zss) = false := decide_eq_false (fun h => hs0 (by rw [hsum]; exact (h.1 i hlt).1.2.2))
              generalize sumZ f (rowZ zss i) k = s at *
              generalize szN n (metZ n zss (i + 1)) = u2 at *
              clear HQ2 hqc hs0 hsum ek hNr hup TI p0
              go_upto_region 18 with fail
              refine wp_region_each (fun L A W => ∃ (v : Nat → Value), A = ⟨#[_, _, _, _, _, _, _, _, _, _, _, _, _, _, _, _, _, _, _, _, _, _, _, _, _, _, _, _, _, _, _, _, _, _, _, _, _, _, _, _, _, _, _, _, _, _, _, _, _, _, _, _, _, _, _, _, _, _, _, _, _, _, _, _, _, _, _, _, _, _, _, _, _, _, _, _, _, _, _, _, _, _, _, v 83, v 84, v 85, v 86, v 87, v 88, v 89, v 90, v 91, v 92, v 93, v 94, v 95, v 96, v 97, v 98, v 99, v 100, v 101, v 102, v 103, v 104, _, _, _, _], []⟩ ∧ RcaR pg po zss.length pc i 0 0 0 0 0 0 0 0 0 s 0 0 true true W2 L v W) (by kernel_rfl) (by kernel_rfl) ⟨fun jz => if jz = 83 then u83 else if jz = 84 then u84 else if jz = 85 then u85 else if jz = 86 then u86 else if jz = 87 then u87 else if jz = 88 then u88 else if jz = 89 then u89 else if jz = 90 then u90 else if jz = 91 then u91 else if jz = 92 then u92 else if jz = 93 then u93 else if jz = 94 then u94 else if jz = 95 then u95 else if jz = 96 then u96 else if jz = 97 then u97 else if jz = 98 then u98 else if jz = 99 then u99 else if jz = 100 then u100 else if jz = 101 then u101 else if jz = 102 then u102 else if jz = 103 then u103 else if jz = 104 then u104 else undef, rfl, ⟨Below.drew (Below.refl _ _), Had.none, Had.none, Had.none, Had.none, Had.none, Had.none, Had.none, Had.none, Had.none, Had.none, Had.none, Had.none, Had.none, Had.none, Had.none, Had.none, Had.none, Had.none, Had.none, Had.none, Had.none, Had.none, Had.none, Had.none, Had.none, Had.none, Had.none, Had.none, Had.none, Had.none, Had.none, Had.none, Had.none, Had.none, Had.none, Had.none, Had.none, Had.none, Had.none, Had.none, Had.none, Had.none, Had.none⟩⟩ (rs := [0, 1, 2, 3, 4, 5, 6, 7, 8, 9, 10, 11, 12, 13, 14, 15, 16, 17, 18, 19, 20, 21]) (by kernel_rfl) ?_ ?_
              · refine EachOf.cons [] rfl (by kernel_rfl) ?_ ?_
                · rintro L A W ⟨v, rfl, hR⟩ hi hw K hK
                  go_simp
                  refine hK.out _ _ ?_
                  exact ⟨(fun jz => if jz = 83 then .int .i64 s else v jz), rfl, ⟨hR.st, hR.w1.o, hR.w2.o, hR.w3.o, hR.w4.o, hR.w5.o, hR.w6.o, hR.w7.o, hR.w8.o, hR.w9.o, hR.w10.o, hR.w11.o, hR.w12.o, hR.w13.o, hR.w14.o, hR.w15.o, hR.w16.o, hR.w17.o, hR.w18.o, hR.w19.o, hR.w20.o, hR.w21.o, (fun _ => rfl), hR.f1.k, hR.f2.k, hR.f3.k, hR.f4.k, hR.f5.k, hR.f6.k, hR.f7.k, hR.f8.k, hR.f9.k, hR.f10.k, hR.f11.k, hR.f12.k, hR.f13.k, hR.f14.k, hR.f15.k, hR.f16.k, hR.f17.k, hR.f18.k, hR.f19.k, hR.f20.k, hR.f21.k⟩⟩
                refine EachOf.cons [0] rfl (by kernel_rfl) ?_ ?_
                · rintro L A W ⟨v, rfl, hR⟩ hi hw K hK
                  have e0 := hR.f0 (hw 0 (by simp))
                  simp only [e0]
                  clear e0
                  go_simp
                  refine hK.out _ _ ?_
                  exact ⟨(fun jz => if jz = 83 then .int .i64 s else if jz = 84 then .bool true else v jz), rfl, ⟨hR.st, (fun _ j hj => upd_on (hw j hj)), hR.w2.o, hR.w3.o, hR.w4.o, hR.w5.o, hR.w6.o, hR.w7.o, hR.w8.o, hR.w9.o, hR.w10.o, hR.w11.o, hR.w12.o, hR.w13.o, hR.w14.o, hR.w15.o, hR.w16.o, hR.w17.o, hR.w18.o, hR.w19.o, hR.w20.o, hR.w21.o, (fun _ => rfl), (fun _ => rfl), hR.f2.k, hR.f3.k, hR.f4.k, hR.f5.k, hR.f6.k, hR.f7.k, hR.f8.k, hR.f9.k, hR.f10.k, hR.f11.k, hR.f12.k, hR.f13.k, hR.f14.k, hR.f15.k, hR.f16.k, hR.f17.k, hR.f18.k, hR.f19.k, hR.f20.k, hR.f21.k⟩⟩
                refine EachOf.cons [1] rfl (by kernel_rfl) ?_ ?_
                · rintro L A W ⟨v, rfl, hR⟩ hi hw K hK
                  have e1 := hR.f1 (hw 1 (by simp))
                  simp only [e1]
                  clear e1
                  go_simp
                  refine hK.out _ _ ?_
                  exact ⟨(fun jz => if jz = 84 then .bool true else if jz = 85 then .bool true else v jz), rfl, ⟨hR.st, hR.w1.o, (fun _ j hj => upd_on (hw j hj)), hR.w3.o, hR.w4.o, hR.w5.o, hR.w6.o, hR.w7.o, hR.w8.o, hR.w9.o, hR.w10.o, hR.w11.o, hR.w12.o, hR.w13.o, hR.w14.o, hR.w15.o, hR.w16.o, hR.w17.o, hR.w18.o, hR.w19.o, hR.w20.o, hR.w21.o, hR.f0.k, (fun _ => rfl), (fun _ => rfl), hR.f3.k, hR.f4.k, hR.f5.k, hR.f6.k, hR.f7.k, hR.f8.k, hR.f9.k, hR.f10.k, hR.f11.k, hR.f12.k, hR.f13.k, hR.f14.k, hR.f15.k, hR.f16.k, hR.f17.k, hR.f18.k, hR.f19.k, hR.f20.k, hR.f21.k⟩⟩
                refine EachOf.cons [2] rfl (by kernel_rfl) ?_ ?_
                · rintro L A W ⟨v, rfl, hR⟩ hi hw K hK
                  have e2 := hR.f2 (hw 2 (by simp))
                  simp only [e2]
                  clear e2
                  go_simp
                  refine hK.out _ _ ?_
                  exact ⟨(fun jz => if jz = 85 then .bool true else if jz = 86 then undef else v jz), rfl, ⟨hR.st, hR.w1.o, hR.w2.o, (fun _ j hj => upd_on (hw j hj)), hR.w4.o, hR.w5.o, hR.w6.o, hR.w7.o, hR.w8.o, hR.w9.o, hR.w10.o, hR.w11.o, hR.w12.o, hR.w13.o, hR.w14.o, hR.w15.o, hR.w16.o, hR.w17.o, hR.w18.o, hR.w19.o, hR.w20.o, hR.w21.o, hR.f0.k, hR.f1.k, (fun _ => rfl), (fun _ => rfl), hR.f4.k, hR.f5.k, hR.f6.k, hR.f7.k, hR.f8.k, hR.f9.k, hR.f10.k, hR.f11.k, hR.f12.k, hR.f13.k, hR.f14.k, hR.f15.k, hR.f16.k, hR.f17.k, hR.f18.k, hR.f19.k, hR.f20.k, hR.f21.k⟩⟩
                refine EachOf.cons [2, 3] rfl (by kernel_rfl) ?_ ?_
                · rintro L A W ⟨v, rfl, hR⟩ hi hw K hK
                  have e3 := hR.f3 (hw 3 (by simp))
                  have e2 := hR.f2 (hw 2 (by simp))
                  simp only [e3, e2]
                  clear e3 e2
                  go_simp
                  refine hK.out _ _ ?_
                  exact ⟨(fun jz => if jz = 86 then undef else if jz = 85 then .bool true else if jz = 87 then undef else v jz), rfl, ⟨hR.st, hR.w1.o, hR.w2.o, hR.w3.o, (fun _ j hj => upd_on (hw j hj)), hR.w5.o, hR.w6.o, hR.w7.o, hR.w8.o, hR.w9.o, hR.w10.o, hR.w11.o, hR.w12.o, hR.w13.o, hR.w14.o, hR.w15.o, hR.w16.o, hR.w17.o, hR.w18.o, hR.w19.o, hR.w20.o, hR.w21.o, hR.f0.k, hR.f1.k, (fun _ => rfl), (fun _ => rfl), (fun _ => rfl), hR.f5.k, hR.f6.k, hR.f7.k, hR.f8.k, hR.f9.k, hR.f10.k, hR.f11.k, hR.f12.k, hR.f13.k, hR.f14.k, hR.f15.k, hR.f16.k, hR.f17.k, hR.f18.k, hR.f19.k, hR.f20.k, hR.f21.k⟩⟩
                refine EachOf.cons [2, 4] rfl (by kernel_rfl) ?_ ?_
                · rintro L A W ⟨v, rfl, hR⟩ hi hw K hK
                  have e4 := hR.f4 (hw 4 (by simp))
                  have e2 := hR.f2 (hw 2 (by simp))
                  simp only [e4, e2]
                  clear e4 e2
                  go_simp
                  refine hK.out _ _ ?_
                  exact ⟨(fun jz => if jz = 87 then undef else if jz = 85 then .bool true else if jz = 88 then undef else v jz), rfl, ⟨hR.st, hR.w1.o, hR.w2.o, hR.w3.o, hR.w4.o, (fun _ j hj => upd_on (hw j hj)), hR.w6.o, hR.w7.o, hR.w8.o, hR.w9.o, hR.w10.o, hR.w11.o, hR.w12.o, hR.w13.o, hR.w14.o, hR.w15.o, hR.w16.o, hR.w17.o, hR.w18.o, hR.w19.o, hR.w20.o, hR.w21.o, hR.f0.k, hR.f1.k, (fun _ => rfl), hR.f3.k, (fun _ => rfl), (fun _ => rfl), hR.f6.k, hR.f7.k, hR.f8.k, hR.f9.k, hR.f10.k, hR.f11.k, hR.f12.k, hR.f13.k, hR.f14.k, hR.f15.k, hR.f16.k, hR.f17.k, hR.f18.k, hR.f19.k, hR.f20.k, hR.f21.k⟩⟩
                refine EachOf.cons [5] rfl (by kernel_rfl) ?_ ?_
                · rintro L A W ⟨v, rfl, hR⟩ hi hw K hK
                  have e5 := hR.f5 (hw 5 (by simp))
                  simp only [e5]
                  clear e5
                  go_simp
                  refine hK.out _ _ ?_
                  exact ⟨(fun jz => if jz = 88 then undef else if jz = 89 then undef else v jz), rfl, ⟨hR.st, hR.w1.o, hR.w2.o, hR.w3.o, hR.w4.o, hR.w5.o, (fun _ j hj => upd_on (hw j hj)), hR.w7.o, hR.w8.o, hR.w9.o, hR.w10.o, hR.w11.o, hR.w12.o, hR.w13.o, hR.w14.o, hR.w15.o, hR.w16.o, hR.w17.o, hR.w18.o, hR.w19.o, hR.w20.o, hR.w21.o, hR.f0.k, hR.f1.k, hR.f2.k, hR.f3.k, hR.f4.k, (fun _ => rfl), (fun _ => rfl), hR.f7.k, hR.f8.k, hR.f9.k, hR.f10.k, hR.f11.k, hR.f12.k, hR.f13.k, hR.f14.k, hR.f15.k, hR.f16.k, hR.f17.k, hR.f18.k, hR.f19.k, hR.f20.k, hR.f21.k⟩⟩
                refine EachOf.cons [5] rfl (by kernel_rfl) ?_ ?_
                · rintro L A W ⟨v, rfl, hR⟩ hi hw K hK
                  have e5 := hR.f5 (hw 5 (by simp))
                  simp only [e5]
                  clear e5
                  go_simp
                  refine hK.out _ _ ?_
                  exact ⟨(fun jz => if jz = 88 then undef else if jz = 90 then undef else v jz), rfl, ⟨hR.st, hR.w1.o, hR.w2.o, hR.w3.o, hR.w4.o, hR.w5.o, hR.w6.o, (fun _ j hj => upd_on (hw j hj)), hR.w8.o, hR.w9.o, hR.w10.o, hR.w11.o, hR.w12.o, hR.w13.o, hR.w14.o, hR.w15.o, hR.w16.o, hR.w17.o, hR.w18.o, hR.w19.o, hR.w20.o, hR.w21.o, hR.f0.k, hR.f1.k, hR.f2.k, hR.f3.k, hR.f4.k, (fun _ => rfl), hR.f6.k, (fun _ => rfl), hR.f8.k, hR.f9.k, hR.f10.k, hR.f11.k, hR.f12.k, hR.f13.k, hR.f14.k, hR.f15.k, hR.f16.k, hR.f17.k, hR.f18.k, hR.f19.k, hR.f20.k, hR.f21.k⟩⟩
                refine EachOf.cons [5, 6, 7] rfl (by kernel_rfl) ?_ ?_
                · rintro L A W ⟨v, rfl, hR⟩ hi hw K hK
                  have e6 := hR.f6 (hw 6 (by simp))
                  have e7 := hR.f7 (hw 7 (by simp))
                  have e5 := hR.f5 (hw 5 (by simp))
                  simp only [e6, e7, e5]
                  clear e6 e7 e5
                  go_simp
                  refine hK.out _ _ ?_
                  exact ⟨(fun jz => if jz = 89 then undef else if jz = 90 then undef else if jz = 88 then undef else if jz = 91 then undef else v jz), rfl, ⟨hR.st, hR.w1.o, hR.w2.o, hR.w3.o, hR.w4.o, hR.w5.o, hR.w6.o, hR.w7.o, (fun _ j hj => upd_on (hw j hj)), hR.w9.o, hR.w10.o, hR.w11.o, hR.w12.o, hR.w13.o, hR.w14.o, hR.w15.o, hR.w16.o, hR.w17.o, hR.w18.o, hR.w19.o, hR.w20.o, hR.w21.o, hR.f0.k, hR.f1.k, hR.f2.k, hR.f3.k, hR.f4.k, (fun _ => rfl), (fun _ => rfl), (fun _ => rfl), (fun _ => rfl), hR.f9.k, hR.f10.k, hR.f11.k, hR.f12.k, hR.f13.k, hR.f14.k, hR.f15.k, hR.f16.k, hR.f17.k, hR.f18.k, hR.f19.k, hR.f20.k, hR.f21.k⟩⟩
                refine EachOf.cons [5, 8] rfl (by kernel_rfl) ?_ ?_
                · rintro L A W ⟨v, rfl, hR⟩ hi hw K hK
                  have e8 := hR.f8 (hw 8 (by simp))
                  have e5 := hR.f5 (hw 5 (by simp))
                  simp only [e8, e5]
                  clear e8 e5
                  go_simp
                  refine hK.out _ _ ?_
                  exact ⟨(fun jz => if jz = 91 then undef else if jz = 88 then undef else if jz = 92 then undef else v jz), rfl, ⟨hR.st, hR.w1.o, hR.w2.o, hR.w3.o, hR.w4.o, hR.w5.o, hR.w6.o, hR.w7.o, hR.w8.o, (fun _ j hj => upd_on (hw j hj)), hR.w10.o, hR.w11.o, hR.w12.o, hR.w13.o, hR.w14.o, hR.w15.o, hR.w16.o, hR.w17.o, hR.w18.o, hR.w19.o, hR.w20.o, hR.w21.o, hR.f0.k, hR.f1.k, hR.f2.k, hR.f3.k, hR.f4.k, (fun _ => rfl), hR.f6.k, hR.f7.k, (fun _ => rfl), (fun _ => rfl), hR.f10.k, hR.f11.k, hR.f12.k, hR.f13.k, hR.f14.k, hR.f15.k, hR.f16.k, hR.f17.k, hR.f18.k, hR.f19.k, hR.f20.k, hR.f21.k⟩⟩
                refine EachOf.cons [5, 9] rfl (by kernel_rfl) ?_ ?_
                · rintro L A W ⟨v, rfl, hR⟩ hi hw K hK
                  have e9 := hR.f9 (hw 9 (by simp))
                  have e5 := hR.f5 (hw 5 (by simp))
                  simp only [e9, e5]
                  clear e9 e5
                  go_simp
                  refine hK.out _ _ ?_
                  exact ⟨(fun jz => if jz = 92 then undef else if jz = 88 then undef else if jz = 93 then undef else v jz), rfl, ⟨hR.st, hR.w1.o, hR.w2.o, hR.w3.o, hR.w4.o, hR.w5.o, hR.w6.o, hR.w7.o, hR.w8.o, hR.w9.o, (fun _ j hj => upd_on (hw j hj)), hR.w11.o, hR.w12.o, hR.w13.o, hR.w14.o, hR.w15.o, hR.w16.o, hR.w17.o, hR.w18.o, hR.w19.o, hR.w20.o, hR.w21.o, hR.f0.k, hR.f1.k, hR.f2.k, hR.f3.k, hR.f4.k, (fun _ => rfl), hR.f6.k, hR.f7.k, hR.f8.k, (fun _ => rfl), (fun _ => rfl), hR.f11.k, hR.f12.k, hR.f13.k, hR.f14.k, hR.f15.k, hR.f16.k, hR.f17.k, hR.f18.k, hR.f19.k, hR.f20.k, hR.f21.k⟩⟩
                refine EachOf.cons [5, 10] rfl (by kernel_rfl) ?_ ?_
                · rintro L A W ⟨v, rfl, hR⟩ hi hw K hK
                  have e10 := hR.f10 (hw 10 (by simp))
                  have e5 := hR.f5 (hw 5 (by simp))
                  simp only [e10, e5]
                  clear e10 e5
                  go_simp
                  refine hK.out _ _ ?_
                  exact ⟨(fun jz => if jz = 93 then undef else if jz = 88 then undef else if jz = 94 then undef else v jz), rfl, ⟨hR.st, hR.w1.o, hR.w2.o, hR.w3.o, hR.w4.o, hR.w5.o, hR.w6.o, hR.w7.o, hR.w8.o, hR.w9.o, hR.w10.o, (fun _ j hj => upd_on (hw j hj)), hR.w12.o, hR.w13.o, hR.w14.o, hR.w15.o, hR.w16.o, hR.w17.o, hR.w18.o, hR.w19.o, hR.w20.o, hR.w21.o, hR.f0.k, hR.f1.k, hR.f2.k, hR.f3.k, hR.f4.k, (fun _ => rfl), hR.f6.k, hR.f7.k, hR.f8.k, hR.f9.k, (fun _ => rfl), (fun _ => rfl), hR.f12.k, hR.f13.k, hR.f14.k, hR.f15.k, hR.f16.k, hR.f17.k, hR.f18.k, hR.f19.k, hR.f20.k, hR.f21.k⟩⟩
                refine EachOf.cons [5] rfl (by kernel_rfl) ?_ ?_
                · rintro L A W ⟨v, rfl, hR⟩ hi hw K hK
                  have e5 := hR.f5 (hw 5 (by simp))
                  simp only [e5]
                  clear e5
                  go_simp
                  refine hK.out _ _ ?_
                  exact ⟨(fun jz => if jz = 88 then undef else if jz = 95 then undef else v jz), rfl, ⟨hR.st, hR.w1.o, hR.w2.o, hR.w3.o, hR.w4.o, hR.w5.o, hR.w6.o, hR.w7.o, hR.w8.o, hR.w9.o, hR.w10.o, hR.w11.o, (fun _ j hj => upd_on (hw j hj)), hR.w13.o, hR.w14.o, hR.w15.o, hR.w16.o, hR.w17.o, hR.w18.o, hR.w19.o, hR.w20.o, hR.w21.o, hR.f0.k, hR.f1.k, hR.f2.k, hR.f3.k, hR.f4.k, (fun _ => rfl), hR.f6.k, hR.f7.k, hR.f8.k, hR.f9.k, hR.f10.k, hR.f11.k, (fun _ => rfl), hR.f13.k, hR.f14.k, hR.f15.k, hR.f16.k, hR.f17.k, hR.f18.k, hR.f19.k, hR.f20.k, hR.f21.k⟩⟩
                refine EachOf.cons [5] rfl (by kernel_rfl) ?_ ?_
                · rintro L A W ⟨v, rfl, hR⟩ hi hw K hK
                  have e5 := hR.f5 (hw 5 (by simp))
                  simp only [e5]
                  clear e5
                  go_simp
                  refine hK.out _ _ ?_
                  exact ⟨(fun jz => if jz = 88 then undef else if jz = 96 then undef else v jz), rfl, ⟨hR.st, hR.w1.o, hR.w2.o, hR.w3.o, hR.w4.o, hR.w5.o, hR.w6.o, hR.w7.o, hR.w8.o, hR.w9.o, hR.w10.o, hR.w11.o, hR.w12.o, (fun _ j hj => upd_on (hw j hj)), hR.w14.o, hR.w15.o, hR.w16.o, hR.w17.o, hR.w18.o, hR.w19.o, hR.w20.o, hR.w21.o, hR.f0.k, hR.f1.k, hR.f2.k, hR.f3.k, hR.f4.k, (fun _ => rfl), hR.f6.k, hR.f7.k, hR.f8.k, hR.f9.k, hR.f10.k, hR.f11.k, hR.f12.k, (fun _ => rfl), hR.f14.k, hR.f15.k, hR.f16.k, hR.f17.k, hR.f18.k, hR.f19.k, hR.f20.k, hR.f21.k⟩⟩
                refine EachOf.cons [5, 13] rfl (by kernel_rfl) ?_ ?_
                · rintro L A W ⟨v, rfl, hR⟩ hi hw K hK
                  have e13 := hR.f13 (hw 13 (by simp))
                  have e5 := hR.f5 (hw 5 (by simp))
                  simp only [e13, e5]
                  clear e13 e5
                  go_simp
                  refine hK.out _ _ ?_
                  exact ⟨(fun jz => if jz = 96 then undef else if jz = 88 then undef else if jz = 97 then undef else v jz), rfl, ⟨hR.st, hR.w1.o, hR.w2.o, hR.w3.o, hR.w4.o, hR.w5.o, hR.w6.o, hR.w7.o, hR.w8.o, hR.w9.o, hR.w10.o, hR.w11.o, hR.w12.o, hR.w13.o, (fun _ j hj => upd_on (hw j hj)), hR.w15.o, hR.w16.o, hR.w17.o, hR.w18.o, hR.w19.o, hR.w20.o, hR.w21.o, hR.f0.k, hR.f1.k, hR.f2.k, hR.f3.k, hR.f4.k, (fun _ => rfl), hR.f6.k, hR.f7.k, hR.f8.k, hR.f9.k, hR.f10.k, hR.f11.k, hR.f12.k, (fun _ => rfl), (fun _ => rfl), hR.f15.k, hR.f16.k, hR.f17.k, hR.f18.k, hR.f19.k, hR.f20.k, hR.f21.k⟩⟩
                refine EachOf.cons [5, 12, 14] rfl (by kernel_rfl) ?_ ?_
                · rintro L A W ⟨v, rfl, hR⟩ hi hw K hK
                  have e12 := hR.f12 (hw 12 (by simp))
                  have e14 := hR.f14 (hw 14 (by simp))
                  have e5 := hR.f5 (hw 5 (by simp))
                  simp only [e12, e14, e5]
                  clear e12 e14 e5
                  go_simp
                  refine hK.out _ _ ?_
                  exact ⟨(fun jz => if jz = 95 then undef else if jz = 97 then undef else if jz = 88 then undef else if jz = 98 then undef else v jz), rfl, ⟨hR.st, hR.w1.o, hR.w2.o, hR.w3.o, hR.w4.o, hR.w5.o, hR.w6.o, hR.w7.o, hR.w8.o, hR.w9.o, hR.w10.o, hR.w11.o, hR.w12.o, hR.w13.o, hR.w14.o, (fun _ j hj => upd_on (hw j hj)), hR.w16.o, hR.w17.o, hR.w18.o, hR.w19.o, hR.w20.o, hR.w21.o, hR.f0.k, hR.f1.k, hR.f2.k, hR.f3.k, hR.f4.k, (fun _ => rfl), hR.f6.k, hR.f7.k, hR.f8.k, hR.f9.k, hR.f10.k, hR.f11.k, (fun _ => rfl), hR.f13.k, (fun _ => rfl), (fun _ => rfl), hR.f16.k, hR.f17.k, hR.f18.k, hR.f19.k, hR.f20.k, hR.f21.k⟩⟩
                refine EachOf.cons [5, 15] rfl (by kernel_rfl) ?_ ?_
                · rintro L A W ⟨v, rfl, hR⟩ hi hw K hK
                  have e15 := hR.f15 (hw 15 (by simp))
                  have e5 := hR.f5 (hw 5 (by simp))
                  simp only [e15, e5]
                  clear e15 e5
                  go_simp
                  refine hK.out _ _ ?_
                  exact ⟨(fun jz => if jz = 98 then undef else if jz = 88 then undef else if jz = 99 then undef else v jz), rfl, ⟨hR.st, hR.w1.o, hR.w2.o, hR.w3.o, hR.w4.o, hR.w5.o, hR.w6.o, hR.w7.o, hR.w8.o, hR.w9.o, hR.w10.o, hR.w11.o, hR.w12.o, hR.w13.o, hR.w14.o, hR.w15.o, (fun _ j hj => upd_on (hw j hj)), hR.w17.o, hR.w18.o, hR.w19.o, hR.w20.o, hR.w21.o, hR.f0.k, hR.f1.k, hR.f2.k, hR.f3.k, hR.f4.k, (fun _ => rfl), hR.f6.k, hR.f7.k, hR.f8.k, hR.f9.k, hR.f10.k, hR.f11.k, hR.f12.k, hR.f13.k, hR.f14.k, (fun _ => rfl), (fun _ => rfl), hR.f17.k, hR.f18.k, hR.f19.k, hR.f20.k, hR.f21.k⟩⟩
                refine EachOf.cons [5, 16] rfl (by kernel_rfl) ?_ ?_
                · rintro L A W ⟨v, rfl, hR⟩ hi hw K hK
                  have e16 := hR.f16 (hw 16 (by simp))
                  have e5 := hR.f5 (hw 5 (by simp))
                  simp only [e16, e5]
                  clear e16 e5
                  go_simp
                  refine hK.out _ _ ?_
                  exact ⟨(fun jz => if jz = 99 then undef else if jz = 88 then undef else if jz = 100 then undef else v jz), rfl, ⟨hR.st, hR.w1.o, hR.w2.o, hR.w3.o, hR.w4.o, hR.w5.o, hR.w6.o, hR.w7.o, hR.w8.o, hR.w9.o, hR.w10.o, hR.w11.o, hR.w12.o, hR.w13.o, hR.w14.o, hR.w15.o, hR.w16.o, (fun _ j hj => upd_on (hw j hj)), hR.w18.o, hR.w19.o, hR.w20.o, hR.w21.o, hR.f0.k, hR.f1.k, hR.f2.k, hR.f3.k, hR.f4.k, (fun _ => rfl), hR.f6.k, hR.f7.k, hR.f8.k, hR.f9.k, hR.f10.k, hR.f11.k, hR.f12.k, hR.f13.k, hR.f14.k, hR.f15.k, (fun _ => rfl), (fun _ => rfl), hR.f18.k, hR.f19.k, hR.f20.k, hR.f21.k⟩⟩
                refine EachOf.cons [5, 17] rfl (by kernel_rfl) ?_ ?_
                · rintro L A W ⟨v, rfl, hR⟩ hi hw K hK
                  have e17 := hR.f17 (hw 17 (by simp))
                  have e5 := hR.f5 (hw 5 (by simp))
                  simp only [e17, e5]
                  clear e17 e5
                  go_simp
                  refine hK.out _ _ ?_
                  exact ⟨(fun jz => if jz = 100 then undef else if jz = 88 then undef else if jz = 101 then undef else v jz), rfl, ⟨hR.st, hR.w1.o, hR.w2.o, hR.w3.o, hR.w4.o, hR.w5.o, hR.w6.o, hR.w7.o, hR.w8.o, hR.w9.o, hR.w10.o, hR.w11.o, hR.w12.o, hR.w13.o, hR.w14.o, hR.w15.o, hR.w16.o, hR.w17.o, (fun _ j hj => upd_on (hw j hj)), hR.w19.o, hR.w20.o, hR.w21.o, hR.f0.k, hR.f1.k, hR.f2.k, hR.f3.k, hR.f4.k, (fun _ => rfl), hR.f6.k, hR.f7.k, hR.f8.k, hR.f9.k, hR.f10.k, hR.f11.k, hR.f12.k, hR.f13.k, hR.f14.k, hR.f15.k, hR.f16.k, (fun _ => rfl), (fun _ => rfl), hR.f19.k, hR.f20.k, hR.f21.k⟩⟩
                refine EachOf.cons [5, 11, 18] rfl (by kernel_rfl) ?_ ?_
                · rintro L A W ⟨v, rfl, hR⟩ hi hw K hK
                  have e11 := hR.f11 (hw 11 (by simp))
                  have e18 := hR.f18 (hw 18 (by simp))
                  have e5 := hR.f5 (hw 5 (by simp))
                  simp only [e11, e18, e5]
                  clear e11 e18 e5
                  go_simp
                  refine hK.out _ _ ?_
                  exact ⟨(fun jz => if jz = 94 then undef else if jz = 101 then undef else if jz = 88 then undef else if jz = 102 then undef else v jz), rfl, ⟨hR.st, hR.w1.o, hR.w2.o, hR.w3.o, hR.w4.o, hR.w5.o, hR.w6.o, hR.w7.o, hR.w8.o, hR.w9.o, hR.w10.o, hR.w11.o, hR.w12.o, hR.w13.o, hR.w14.o, hR.w15.o, hR.w16.o, hR.w17.o, hR.w18.o, (fun _ j hj => upd_on (hw j hj)), hR.w20.o, hR.w21.o, hR.f0.k, hR.f1.k, hR.f2.k, hR.f3.k, hR.f4.k, (fun _ => rfl), hR.f6.k, hR.f7.k, hR.f8.k, hR.f9.k, hR.f10.k, (fun _ => rfl), hR.f12.k, hR.f13.k, hR.f14.k, hR.f15.k, hR.f16.k, hR.f17.k, (fun _ => rfl), (fun _ => rfl), hR.f20.k, hR.f21.k⟩⟩
                refine EachOf.cons [2, 5, 19] rfl (by kernel_rfl) ?_ ?_
                · rintro L A W ⟨v, rfl, hR⟩ hi hw K hK
                  have e5 := hR.f5 (hw 5 (by simp))
                  have e19 := hR.f19 (hw 19 (by simp))
                  have e2 := hR.f2 (hw 2 (by simp))
                  simp only [e5, e19, e2]
                  clear e5 e19 e2
                  go_simp
                  refine hK.out _ _ ?_
                  exact ⟨(fun jz => if jz = 88 then undef else if jz = 102 then undef else if jz = 85 then .bool true else if jz = 103 then undef else v jz), rfl, ⟨hR.st, hR.w1.o, hR.w2.o, hR.w3.o, hR.w4.o, hR.w5.o, hR.w6.o, hR.w7.o, hR.w8.o, hR.w9.o, hR.w10.o, hR.w11.o, hR.w12.o, hR.w13.o, hR.w14.o, hR.w15.o, hR.w16.o, hR.w17.o, hR.w18.o, hR.w19.o, (fun _ j hj => upd_on (hw j hj)), hR.w21.o, hR.f0.k, hR.f1.k, (fun _ => rfl), hR.f3.k, hR.f4.k, (fun _ => rfl), hR.f6.k, hR.f7.k, hR.f8.k, hR.f9.k, hR.f10.k, hR.f11.k, hR.f12.k, hR.f13.k, hR.f14.k, hR.f15.k, hR.f16.k, hR.f17.k, hR.f18.k, (fun _ => rfl), (fun _ => rfl), hR.f21.k⟩⟩
                refine EachOf.cons [2, 20] rfl (by kernel_rfl) ?_ ?_
                · rintro L A W ⟨v, rfl, hR⟩ hi hw K hK
                  have e2 := hR.f2 (hw 2 (by simp))
                  have e20 := hR.f20 (hw 20 (by simp))
                  simp only [e2, e20]
                  clear e2 e20
                  go_simp
                  refine hK.out _ _ ?_
                  exact ⟨(fun jz => if jz = 85 then .bool true else if jz = 103 then undef else if jz = 104 then .bool true else v jz), rfl, ⟨hR.st, hR.w1.o, hR.w2.o, hR.w3.o, hR.w4.o, hR.w5.o, hR.w6.o, hR.w7.o, hR.w8.o, hR.w9.o, hR.w10.o, hR.w11.o, hR.w12.o, hR.w13.o, hR.w14.o, hR.w15.o, hR.w16.o, hR.w17.o, hR.w18.o, hR.w19.o, hR.w20.o, (fun _ j hj => upd_on (hw j hj)), hR.f0.k, hR.f1.k, (fun _ => rfl), hR.f3.k, hR.f4.k, hR.f5.k, hR.f6.k, hR.f7.k, hR.f8.k, hR.f9.k, hR.f10.k, hR.f11.k, hR.f12.k, hR.f13.k, hR.f14.k, hR.f15.k, hR.f16.k, hR.f17.k, hR.f18.k, hR.f19.k, (fun _ => rfl), (fun _ => rfl)⟩⟩
                exact EachOf.nil
              · rintro L A W ⟨v, rfl, hR⟩ hall
                have hst := Lib.hid hR.st
                have e21 := hR.f21 (hall 21 (by simp))
                simp only [e21]
                clear hR e21 hall
                go_wp2_with fail
                go_ret
                exact ⟨below_on HB.out hst.out, by (first | rfl | (rw [hb]; rfl) | rw [hb])⟩
    · have li : ¬ (i : Int) < (zss.length : Int) := by omega
      have e : i = zss.length := by omega
      have hb : decide (ChkS n f zss) = (((szN n (metZ n zss i) : Nat) : Int) == (n : Int)) := by
        have hlt2 : metZ n zss i < 2 ^ n := metZ_lt i S.out.2.2
        have hf2 := szN_full hlt2
        rw [e] at S hf2 ⊢
        by_cases q : metZ n zss zss.length = 2 ^ n - 1
        · rw [decide_eq_true ⟨S.out.2.2, q⟩, hf2.2 q]; simp
        · rw [decide_eq_false (fun h => q h.2)]; symm; simp; exact fun h => q (hf2.1 (by omega))
      have HB := Lib.hid S.out.1
      generalize szN n (metZ n zss i) = u at *
      clear S e
      go_wp2_with fail
      go_ret
      exact ⟨HB.out, by (first | rfl | (rw [hb]; rfl) | rw [hb])⟩
end Go.Proofs.YtjonhhmapbibaaaDoor
