/- Layer 7: valid, search, Find, Zero; the reference's Given. -/
import Derived.Test.YtjonhhmapbibaaaDoorUFirst
namespace Go.Proofs.YtjonhhmapbibaaaDoor
open Go.ChangeShapes Go.WideShapes Go.ChangeAt Go.RowKit Go.Joins Go.Deep Go.Shelf
set_option linter.unusedVariables false

/-! The first one of a family. -/
def Fam (f : Nat → Int) (n : Nat) (sum : Int) (l0 : Nat) : List Nat → Prop := fun x => ∃ p : Nat → Bool, x = ixs p n ∧ smS p f n = sum ∧ l0 ≤ x.length
theorem ixs_pos {n s : Nat} (h : s < 2 ^ n) (h0 : s ≠ 0) : 1 ≤ (ixs (bitI n s) n).length := by
  rcases Nat.eq_zero_or_pos (ixs (bitI n s) n).length with q | q
  · exfalso
    have e := List.length_eq_zero_iff.1 q
    refine h0 (Nat.eq_of_testBit_eq fun i => ?_)
    rw [Nat.zero_testBit]
    rcases Nat.lt_or_ge i n with hi | hi
    · unfold ixs at e
      have := (List.filter_eq_nil_iff.1 e) (n - 1 - i) (List.mem_range.2 (by omega))
      unfold bitI at this
      rw [show n - 1 - (n - 1 - i) = i by omega] at this
      simpa using this
    · exact Nat.testBit_lt_two_pow (Nat.lt_of_lt_of_le h (Nat.pow_le_pow_right (by decide) hi))
  · exact q
theorem ixs_zero (n : Nat) : (ixs (bitI n 0) n).length = 0 := by
  unfold ixs
  rw [List.length_eq_zero_iff, List.filter_eq_nil_iff]
  intro i _
  unfold bitI
  rw [Nat.zero_testBit]
  simp
theorem FsI.fst {n least b : Nat} {f : Nat → Int} {sum : Int} (h : FsI n least (fun s => smS (bitI n s) f n) sum (2 ^ n) b true) (hl : least ≤ 1) : IsFst (Fam f n sum least) (ixs (bitI n b) n) := by
  obtain ⟨h1, h2, h3, h4⟩ := h.yes rfl
  refine ⟨⟨bitI n b, rfl, h3, ?_⟩, fun x ⟨p, hx, hs, hlx⟩ => ?_⟩
  · by_cases q : least = 0
    · omega
    · exact Nat.le_trans hl (ixs_pos h2 (by omega))
  · obtain ⟨s, hsl, hse⟩ := bitI_all p n
    have e : x = ixs (bitI n s) n := by rw [hx]; exact (ixs_congr hse).symm
    have e2 : smS (bitI n s) f n = sum := by rw [← hs]; exact smS_congr hse
    have e3 : least ≤ s := by
      by_cases q : least = 0
      · omega
      · by_cases z : s = 0
        · rw [e, z, ixs_zero] at hlx; omega
        · omega
    rw [e]
    rcases h4 s e3 hsl e2 with q | ⟨q, q2⟩
    · exact .inr (.inl q)
    · rcases Nat.lt_or_ge s b with z | z
      · exact .inr (.inr ⟨q, earl_num n b s h2 hsl z q⟩)
      · exact .inl (by rw [show s = b by omega])
theorem FsI.none {n least b : Nat} {f : Nat → Int} {sum : Int} (h : FsI n least (fun s => smS (bitI n s) f n) sum (2 ^ n) b false) (hl : least ≤ 1) : ∀ x, ¬ Fam f n sum least x := fun x ⟨p, hx, hs, hlx⟩ => by
  obtain ⟨s, hsl, hse⟩ := bitI_all p n
  have e : x = ixs (bitI n s) n := by rw [hx]; exact (ixs_congr hse).symm
  have e2 : smS (bitI n s) f n = sum := by rw [← hs]; exact smS_congr hse
  have e3 : least ≤ s := by
    by_cases q : least = 0
    · omega
    · by_cases z : s = 0
      · rw [e, z, ixs_zero] at hlx; omega
      · omega
  exact (h.no rfl).2 s e3 hsl e2

/-! Valid lists. -/
def okF (n : Nat) (f : Nat → Int) : Bool := decide (∀ j, j < n → -1125899906842624 ≤ f j ∧ f j ≤ 1125899906842624)
def givE (n : Nat) (f : Nat → Int) : Int := if 16 < n then 6 else if okF n f = true then 0 else 1
theorem valid1_pred (w : World) :
    PredAt Tryd.prog 36 #[] (fun z : Int => Value.int .i64 z) (fun z => decide (z < -1125899906842624) || decide (1125899906842624 < z)) w := fun W z hb => by
  show Calls Tryd.prog 36 #[.int .i64 z] W _
  go_enter Tryd.func36, Tryd.ntmps36
  go_wp2
  all_goals (go_ret; exact ⟨by simp_all, 0, rfl⟩)
theorem okF_any (n : Nat) (f : Nat → Int) : ((((List.range n).map f).take n).any (fun z => decide (z < -1125899906842624) || decide (1125899906842624 < z))) = !okF n f := by
  rw [List.take_of_length_le (by simp)]
  unfold okF
  by_cases h : ∀ j, j < n → -1125899906842624 ≤ f j ∧ f j ≤ 1125899906842624
  · rw [decide_eq_true h, Bool.not_true, List.any_eq_false]
    intro x hx
    obtain ⟨j, hj, rfl⟩ := List.mem_map.1 hx
    have := h j (by simpa using hj)
    simp
    omega
  · rw [decide_eq_false h]
    have ⟨j, hj, hn⟩ : ∃ j, j < n ∧ ¬ (-1125899906842624 ≤ f j ∧ f j ≤ 1125899906842624) := Classical.byContradiction fun q => h fun j hj => Classical.byContradiction fun g => q ⟨j, hj, g⟩
    rw [Bool.not_false, List.any_eq_true]
    refine ⟨f j, List.mem_map.2 ⟨j, by simpa using hj, rfl⟩, ?_⟩
    simp
    omega
theorem cont_ok (ra : Option Addr) (n c : Nat) (f : Nat → Int) (w : World) (hr : IRow w ra n f) (hn : n ≤ 9223372036854775807) :
    Calls Tryd.prog 35 #[.slice ra n c, .func (.func 36) #[] #[]] w fun e w' => e = .returned (.bool (!okF n f)) ∧ Below w.heap.size w w' := by
  by_cases h0 : n = 0
  · subst h0
    refine (Tryd.slices_ContainsFunc_empty_f35 (α := Int) ra c _ w).mono ?_
    rintro e w' ⟨rfl, rfl⟩
    exact ⟨by simp [okF], Below.refl _ _⟩
  · obtain ⟨g, o, rfl, h2, h3⟩ := hr (by omega)
    have eg : ∀ args w, (callFunc 36 args).run Tryd.prog w = .ok (.enter 36 args) w := enters_of Tryd.func36 (by kernel_rfl) rfl
    refine (Tryd.slices_ContainsFunc_f35 (fun z : Int => Value.int .i64 z) _ _ #[] eg g o n c ((List.range n).map f) w (valid1_pred w) (by simp) hn (fun j hj => ?_)).mono ?_
    · have hj' : j < n := by simpa using hj
      rw [h3 j hj', getElem!_pos _ _ (by simpa using hj')]
      simp
    · rintro e w' ⟨rfl, q, rfl⟩
      exact ⟨by rw [okF_any], below_drew (Below.refl _ _) q⟩
theorem valid_any (ra : Option Addr) (n c : Nat) (f : Nat → Int) (w : World) (hr : IRow w ra n f) (hn : n ≤ 9223372036854775807) :
    Calls Tryd.prog 20 #[.slice ra n c] w fun e w' => e = .returned (.int .i64 (givE n f)) ∧ Below w.heap.size w w' := by
  have C := Lib.hid (cont_ok ra n c f w hr hn)
  clear hr
  by_cases h : 16 < n
  · have l : (n : Int) > 16 := by omega
    have e : givE n f = 6 := if_pos h
    go_enter Tryd.func20, Tryd.ntmps20
    go_wp2_with fail
    go_ret
    exact ⟨by rw [e]; rfl, Below.refl _ _⟩
  · have l : ¬ (n : Int) > 16 := by omega
    cases ho : okF n f with
    | true =>
      have e : givE n f = 0 := by unfold givE; rw [if_neg h, if_pos ho]
      rw [ho] at C
      go_enter Tryd.func20, Tryd.ntmps20
      go_wp2_with (go_at_call 35; (with_reducible refine ((C.out).mono ?_)); rintro e w' ⟨rfl, hb⟩)
      go_ret
      exact ⟨by rw [e]; rfl, hb⟩
    | false =>
      have e : givE n f = 1 := by unfold givE; rw [if_neg h, if_neg (by simp [ho])]
      rw [ho] at C
      go_enter Tryd.func20, Tryd.ntmps20
      go_wp2_with (go_at_call 35; (with_reducible refine ((C.out).mono ?_)); rintro e w' ⟨rfl, hb⟩)
      go_ret
      exact ⟨by rw [e]; rfl, hb⟩

/-! Search. -/
theorem own_mono {W : World} {b b2 : Nat} {t : TypeId} {k n : Nat} {v : Value} {xs : List Value} (h : W.ownsRow b t k v n xs) (hl : b2 ≤ b) : W.ownsRow b2 t k v n xs := ⟨h.1, h.2.imp id fun ⟨g, cap, cur, h1, h2, h3⟩ => ⟨g, cap, cur, h1, Nat.le_trans hl h2, h3⟩⟩
/-- What search returns. -/
def SrO (n : Nat) (f : Nat → Int) (sum : Int) (least : Nat) (w w' : World) (v : Value) (er : Int) : Prop :=
  (er = 12 ∧ v = .slice none 0 0 ∧ ∀ x, ¬ Fam f n sum least x) ∨
  (er = 0 ∧ ∃ (l : List Nat) (pa : Option Addr) (pc : Nat), v = .slice pa l.length pc ∧ IsFst (Fam f n sum least) l ∧ l.length ≤ n ∧ w'.ownsRow w.heap.size 3 1 (.slice pa l.length pc) l.length (l.map fun i => Value.int .i64 (i : Nat)))
theorem search_ok (ra : Option Addr) (n c : Nat) (f : Nat → Int) (sum : Int) (least : Nat) (w : World) (hr : IRow w ra n f) (hd : DB w) (hn : n ≤ 11) (ho : okF n f = true) (hl : least ≤ 1) :
    Calls Tryd.prog 32 #[.slice ra n c, .int .i64 sum, .int .u64 (least : Int)] w fun e w' => Below w.heap.size w w' ∧ ∃ v er, e = .returned (.tuple #[v, .int .i64 er]) ∧ SrO n f sum least w w' v er := by
  have hg : givE n f = 0 := by unfold givE; rw [if_neg (by omega), if_pos ho]
  have hf := of_decide_eq_true ho
  have CV := Lib.hid (valid_any ra n c f w hr (by omega))
  rw [hg] at CV
  have CS := fun W (h : Below w.heap.size w W) => Lib.hid (sumsOf_any ra n c f W (hr.on h) (hd.on h) hn hf)
  have hN : 2 ^ n ≤ 2048 := Nat.le_trans (Nat.pow_le_pow_right (by decide) hn) (by decide)
  have h0 := Nat.two_pow_pos n
  have CF := fun lo g cp W (h : NRow lo (2 ^ n) W g cp (fun s => smS (bitI n s) f n)) => Lib.hid (first_any n lo g cp least _ sum W h hn (by omega))
  have CI := fun s (h : s < 2 ^ n) W => Lib.hid (indices_any n s (by omega) h W)
  clear hr hd
  go_enter Tryd.func32, Tryd.ntmps32
  go_upto_region 5 with (first
    | (go_at_call 20; (with_reducible refine ((CV.out).mono ?_)); rintro e w2 ⟨rfl, hb2⟩)
    | (go_at_call 21; (with_reducible refine (((CS _ hb2).out).mono ?_)); rintro e w3 ⟨hb3, g, rfl, hrow⟩; have F := (CF _ _ _ _ hrow).out)
    | (go_at_call 39; (with_reducible refine (F.mono ?_)); rintro e w4 ⟨rfl, b, fd, rfl, hI⟩))
  have HB := Lib.hid (below_on hb2 hb3)
  cases fd with
  | false =>
    have HN := Lib.hid (hI.none hl)
    clear hI F hrow hb2 hb3
    go_wp2_with fail
    go_ret2
    exact ⟨HB.out, _, _, rfl, .inl ⟨rfl, rfl, HN.out⟩⟩
  | true =>
    have HN := Lib.hid (hI.fst hl)
    have C2 := fun W => CI b (hI.yes rfl).2.1 W
    have hsz := sz_le n b
    unfold sz at hsz
    clear hI F hrow hb2 hb3
    go_wp2_with (go_at_call 25; (with_reducible refine (((C2 _).out).mono ?_)); rintro e w5 ⟨hb5, pa, pc, rfl, hown⟩)
    go_ret2
    exact ⟨below_on HB.out hb5, _, _, rfl, .inr ⟨rfl, _, pa, pc, rfl, HN.out, hsz, own_mono hown HB.out.size⟩⟩
theorem search_bad (ra : Option Addr) (n c : Nat) (f : Nat → Int) (sum : Int) (least : Nat) (w : World) (hr : IRow w ra n f) (hn : n ≤ 9223372036854775807) (hg : givE n f ≠ 0) :
    Calls Tryd.prog 32 #[.slice ra n c, .int .i64 sum, .int .u64 (least : Int)] w fun e w' => Below w.heap.size w w' ∧ e = .returned (.tuple #[.slice none 0 0, .int .i64 (givE n f)]) := by
  have CV := Lib.hid (valid_any ra n c f w hr hn)
  have q : (givE n f != 0) = true := by simpa using hg
  generalize givE n f = er at *
  clear hr hg
  go_enter Tryd.func32, Tryd.ntmps32
  go_wp2_with (go_at_call 20; (with_reducible refine ((CV.out).mono ?_)); rintro e w2 ⟨rfl, hb2⟩)
  go_ret2
  exact ⟨hb2, rfl⟩

theorem Zero_ok (ra : Option Addr) (n c : Nat) (f : Nat → Int) (w : World) (hr : IRow w ra n f) (hd : DB w) (hn : n ≤ 11) (ho : okF n f = true) :
    Calls Tryd.prog 16 #[.slice ra n c] w fun e w' => Below w.heap.size w w' ∧ ∃ v er, e = .returned (.tuple #[v, .int .i64 er]) ∧ SrO n f 0 1 w w' v er := by
  have C := Lib.hid (search_ok ra n c f 0 1 w hr hd hn ho (by omega))
  rw [show ((1 : Nat) : Int) = 1 from rfl] at C
  clear hr hd
  go_enter Tryd.func16, Tryd.ntmps16
  go_wp2_with (go_at_call 32; (with_reducible refine ((C.out).mono ?_)); rintro e w2 ⟨hb2, v, er, rfl, hs⟩)
  go_ret2
  exact ⟨hb2, _, _, rfl, hs⟩
theorem Zero_bad (ra : Option Addr) (n c : Nat) (f : Nat → Int) (w : World) (hr : IRow w ra n f) (hn : n ≤ 9223372036854775807) (hg : givE n f ≠ 0) :
    Calls Tryd.prog 16 #[.slice ra n c] w fun e w' => Below w.heap.size w w' ∧ e = .returned (.tuple #[.slice none 0 0, .int .i64 (givE n f)]) := by
  have C := Lib.hid (search_bad ra n c f 0 1 w hr hn hg)
  rw [show ((1 : Nat) : Int) = 1 from rfl] at C
  generalize givE n f = er at *
  clear hr
  go_enter Tryd.func16, Tryd.ntmps16
  go_wp2_with (go_at_call 32; (with_reducible refine ((C.out).mono ?_)); rintro e w2 ⟨hb2, rfl⟩)
  go_ret2
  exact ⟨hb2, rfl⟩
end Go.Proofs.YtjonhhmapbibaaaDoor
