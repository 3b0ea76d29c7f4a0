/- Layer 7, SubsetsPairs: sorted lists, contained numbers, totals, pairs of sums. -/
import Derived.Test.YtlgpckjhnohhhaaDoorUSumL
import Derived.Test.YtlgpckjhnohhhaaDoorUOrd
namespace Go.Proofs.YtlgpckjhnohhhaaDoor
open Go.ChangeShapes Go.WideShapes Go.ChangeAt Go.RowKit Go.Joins Go.Deep Go.Shelf
set_option linter.unusedVariables false

theorem isSorted_any (ra : Option Addr) (c : Nat) (zs : List Int) (w : World) (hz : ZRow w ra zs) (ha : Asc zs) (h0 : 0 < zs.length) (hn : zs.length ≤ 4096) :
    Calls Tryd.prog 29 #[.slice ra zs.length c] w fun e w' => e = .returned (.bool true) ∧ Below w.heap.size w w' := by
  obtain ⟨g, o, rfl, h2, h3⟩ := hz h0
  have C := AnyO.slices_IsSorted_int Tryd.laySrt g o c zs.toArray w (fun i hi => by
    have hi' : i < zs.length := by simpa using hi
    rw [h3 i hi', nth_get _ _ hi', getElem!_pos _ _ (by simpa using hi')]
    simp) (by simp; omega)
  have e : Lib.downOK (fun x y => decide (x < y)) zs.toArray (zs.toArray.size - 1) = true := by
    rw [Lib.downOK_iff]
    intro i hj
    have hlt : i + 1 < zs.length := by simp at hj; omega
    rw [getElem!_pos _ _ (by simpa using hlt), getElem!_pos _ _ (by simp; omega)]
    have := (List.pairwise_iff_getElem.1 ha) i (i + 1) (by omega) hlt (by omega)
    simp
    omega
  rw [e, List.size_toArray] at C
  refine C.mono ?_
  rintro e w' ⟨rfl, q, rfl⟩
  exact ⟨rfl, below_drew (Below.refl _ _) q⟩
theorem compact_asc {zs : List Int} (ha : Asc zs) : Lib.compact zs = zs := by
  refine asc_eq (compact_sorted zs (List.Pairwise.imp Int.le_of_lt ha)).1 ha (compact_sorted zs (List.Pairwise.imp Int.le_of_lt ha)).2
set_option maxHeartbeats 4000000 in
theorem contains_any (ra : Option Addr) (c : Nat) (zs : List Int) (x : Int) (w : World) (hz : ZRow w ra zs) (hn : zs.length ≤ 4096) :
    Calls Tryd.prog 32 #[.slice ra zs.length c, .int .i64 x] w fun e w' => e = .returned (.bool (decide (x ∈ zs))) ∧ w = w' := by
  have CI : Calls Tryd.prog 61 #[.slice ra zs.length c, .int .i64 x] w fun e w' => (∃ i : Int, e = .returned (.int .i64 i) ∧ (decide (0 ≤ i) = decide (x ∈ zs))) ∧ w = w' := by
    have HZ := Lib.hid hz
    have S0 : Hid (∀ j, j < 0 → nth zs j ≠ x) := fun j h => by omega
    clear hz
    go_enter Tryd.func61, Tryd.ntmps61
    go_wp2_with fail
    go_loopg [8] zs.length (fun g s8 wx => ∃ i : Nat, s8 = .int .i64 i ∧ g = zs.length - i ∧ i ≤ zs.length ∧ wx = w ∧ Hid (∀ j, j < i → nth zs j ≠ x))
    case atStart => exact ⟨0, rfl, rfl, Nat.zero_le _, rfl, S0⟩
    case round =>
      clear S0
      obtain ⟨i, rfl, rfl, hi, rfl, S⟩ := hrel
      by_cases hlt : i < zs.length
      · obtain ⟨zg, zo, rfl, hzl, hzc⟩ := HZ.out (by omega)
        have wi : IntKind.i64.wrap ((i : Int) + 1) = ((i + 1 : Nat) : Int) := by rw [IntWalk.i64_in _ (by omega)]; omega
        have li : (i : Int) < (zs.length : Int) := by omega
        have p1 := hzc i hlt
        have hmem : nth zs i ∈ zs := by rw [nth_get _ _ hlt]; exact List.getElem_mem hlt
        by_cases he : nth zs i = x
        · have q : (x == nth zs i) = true := by simp [he]
          have hin : decide (x ∈ zs) = true := decide_eq_true (he ▸ hmem)
          generalize nth zs i = y at *
          clear S hzc HZ hmem he
          go_wp2_with fail
          go_ret
          exact ⟨⟨_, rfl, by rw [hin]; exact decide_eq_true (by omega)⟩, rfl⟩
        · have q : (x == nth zs i) = false := by simp; exact fun h => he h.symm
          have T : Hid (∀ j, j < i + 1 → nth zs j ≠ x) := fun j hj => by
            by_cases hji : j = i
            · rw [hji]; exact he
            · exact S.out j (by omega)
          generalize nth zs i = y at *
          clear S hzc HZ hmem he
          go_wp2_with fail
          go_roundg (zs.length - (i + 1))
          case measure => omega
          case rel => exact ⟨i + 1, rfl, rfl, by omega, rfl, T⟩
      · have li : ¬ (i : Int) < (zs.length : Int) := by omega
        have hin : decide (x ∈ zs) = false := decide_eq_false (fun h => by
          obtain ⟨j, hj, e⟩ := List.getElem_of_mem h
          exact S.out j (by omega) (by rw [nth_get _ _ hj]; exact e))
        clear S
        go_wp2_with fail
        go_ret
        exact ⟨⟨_, rfl, by (first | decide | (rw [hin]; rfl))⟩, rfl⟩
  have C := Lib.hid CI
  clear hz CI
  generalize decide (x ∈ zs) = b at *
  generalize zs.length = N at *
  go_enter Tryd.func32, Tryd.ntmps32
  go_wp2_with (go_at_call 61; (with_reducible refine ((C.out).mono ?_)); rintro e w2 ⟨⟨i, rfl, hb⟩, rfl⟩)
  go_ret
  subst hb
  exact ⟨rfl, rfl⟩
/-- The sum of all. -/
def totS (f : Nat → Int) (n : Nat) : Int := smS (fun _ => true) f n
theorem totS_succ (f : Nat → Int) (n : Nat) : totS f (n + 1) = totS f n + f n := by unfold totS; rw [smS]; simp
theorem total_any (ra : Option Addr) (n c : Nat) (f : Nat → Int) (w : World) (hr : IRow w ra n f) (hn : n ≤ 11) (hf : ∀ i, i < n → -1125899906842624 ≤ f i ∧ f i ≤ 1125899906842624) :
    Calls Tryd.prog 33 #[.slice ra n c] w fun e w' => e = .returned (.int .i64 (totS f n)) ∧ w = w' := by
  have HR := Lib.hid hr
  have HB := Lib.hid (fun k (hk : k ≤ n) => smS_bd (p := fun _ => true) (f := f) (n := k) (B := 1125899906842624) (by decide) (fun i hi => hf i (by omega)))
  clear hr hf
  go_enter Tryd.func33, Tryd.ntmps33
  go_wp2_with fail
  go_loopg [8, 3] n (fun g s8 s3 wx => ∃ i : Nat, s8 = .int .i64 i ∧ s3 = .int .i64 (totS f i) ∧ g = n - i ∧ i ≤ n ∧ wx = w)
  case atStart => exact ⟨0, rfl, rfl, rfl, Nat.zero_le _, rfl⟩
  case round =>
    obtain ⟨i, rfl, rfl, rfl, hi, rfl⟩ := hrel
    by_cases hlt : i < n
    · obtain ⟨g, o, rfl, hl, hc⟩ := HR.out (by omega)
      have wi : IntKind.i64.wrap ((i : Int) + 1) = ((i + 1 : Nat) : Int) := by rw [IntWalk.i64_in _ (by omega)]; omega
      have li : (i : Int) < (n : Int) := by omega
      have p1 := hc i hlt
      have b1 := HB.out (i + 1) (by omega)
      have ws : IntKind.i64.wrap (totS f i + f i) = totS f (i + 1) := by
        rw [← totS_succ]; unfold totS; exact IntWalk.i64_in _ (by omega)
      generalize f i = y at *
      generalize totS f i = u at *
      generalize hT : totS f (i + 1) = u2 at *
      clear hc b1 HB HR
      go_wp2_with fail
      go_roundg (n - (i + 1))
      case measure => omega
      case rel => exact ⟨i + 1, rfl, by rw [hT], rfl, by omega, rfl⟩
    · have e : i = n := by omega
      subst e
      have li : ¬ (i : Int) < (i : Int) := by omega
      go_wp2_with fail
      go_ret
      exact ⟨rfl, rfl⟩
/-- What mirrors an ascending list mirrors its places. -/
theorem asc_mirror {zs : List Int} {T : Int} (ha : Asc zs) (h : ∀ x, x ∈ zs → T - x ∈ zs) (i : Nat) (hi : i < zs.length) : nth zs i + nth zs (zs.length - 1 - i) = T := by
  have e : (zs.map fun x => T - x).reverse = zs := by
    refine asc_eq ?_ ha fun x => ?_
    · unfold Asc
      rw [List.pairwise_reverse, List.pairwise_map]
      exact List.Pairwise.imp (fun {a b} (hab : a < b) => by omega) ha
    · rw [List.mem_reverse, List.mem_map]
      constructor
      · rintro ⟨y, hy, rfl⟩; exact h y hy
      · intro hx; exact ⟨T - x, h x hx, by omega⟩
  have h1 : nth zs i = T - nth zs (zs.length - 1 - i) := by
    have hl : zs.length - 1 - i < zs.length := by omega
    rw [nth_get _ _ hl, nth_get _ _ hi]
    have : zs[i]? = ((zs.map fun x => T - x).reverse)[i]? := by rw [e]
    rw [List.getElem?_eq_getElem hi, List.getElem?_reverse (by simpa using hi), List.getElem?_map, List.length_map, List.getElem?_eq_getElem hl] at this
    simpa using this
  omega
theorem smS_flip (p : Nat → Bool) (f : Nat → Int) : ∀ n, smS (fun i => !p i) f n = totS f n - smS p f n
  | 0 => by unfold totS; simp [smS]
  | n + 1 => by
    rw [totS_succ, smS, smS, smS_flip p f n]
    cases p n <;> simp <;> omega
theorem allS_mirror (f : Nat → Int) (n : Nat) (x : Int) (h : x ∈ allS f n) : totS f n - x ∈ allS f n := by
  obtain ⟨p, rfl⟩ := (allS_mem f n x).1 h
  exact (allS_mem f n _).2 ⟨_, smS_flip p f n⟩
end Go.Proofs.YtlgpckjhnohhhaaDoor
