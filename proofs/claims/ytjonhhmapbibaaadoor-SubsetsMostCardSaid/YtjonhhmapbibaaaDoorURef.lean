/- Layer 7's reference: Given, Has, Indices, Sum, Earlier. -/
import Derived.Test.YtjonhhmapbibaaaDoorUSrch
namespace Go.Proofs.YtjonhhmapbibaaaDoor
open Go.ChangeShapes Go.WideShapes Go.ChangeAt Go.RowKit Go.Joins Go.Deep Go.Shelf
set_option linter.unusedVariables false

theorem and_i64_nat (a b : Nat) (ha : a < 9223372036854775808) (hb : b < 9223372036854775808) :
    bits .and .i64 (a : Int) (b : Int) = ((a &&& b : Nat) : Int) := by
  have hx : a &&& b < 2 ^ 63 := Nat.and_lt_two_pow _ (by omega)
  have h1 : (BitVec.ofInt 64 (a : Int)).toNat = a := by
    rw [BitVec.ofInt_natCast, BitVec.toNat_ofNat]; exact Nat.mod_eq_of_lt (by omega)
  have h2 : (BitVec.ofInt 64 (b : Int)).toNat = b := by
    rw [BitVec.ofInt_natCast, BitVec.toNat_ofNat]; exact Nat.mod_eq_of_lt (by omega)
  show IntKind.i64.wrap ((BitVec.ofInt 64 (a : Int) &&& BitVec.ofInt 64 (b : Int)).toNat : Int) = _
  rw [BitVec.toNat_and, h1, h2, IntWalk.i64_in _ (by omega)]
theorem bit_test64 (s k : Nat) (hs : s < 9223372036854775808) : (bits .and .i64 ((s : Int) / 2 ^ k) 1 == 1) = s.testBit k := by
  have e : (s : Int) / 2 ^ k = ((s / 2 ^ k : Nat) : Int) := by rw [p2_cast, Int.natCast_ediv]
  have l : s / 2 ^ k < 9223372036854775808 := Nat.lt_of_le_of_lt (Nat.div_le_self _ _) hs
  rw [e, show (1 : Int) = ((1 : Nat) : Int) from rfl, and_i64_nat _ _ l (by decide), Nat.and_one_is_mod, Nat.testBit_eq_decide_div_mod_eq]
  rcases Nat.mod_two_eq_zero_or_one (s / 2 ^ k) with q | q <;> rw [q] <;> rfl
theorem Has_any (t i : Nat) (w : World) (ht : t < 9223372036854775808) (hi : i < 63) :
    Calls Tryd.prog 38 #[.int .i64 (t : Int), .int .i64 (i : Int)] w fun e w' => e = .returned (.bool (t.testBit i)) ∧ w = w' := by
  have h := bit_test64 t i ht
  have k : IntKind.u64.wrap (i : Int) = (i : Int) := IntWalk.u64_in _ (by omega)
  go_enter Tryd.func38, Tryd.ntmps38
  go_wp2_with (simp only [Int.toNat_natCast])
  go_ret
  exact ⟨rfl, rfl⟩

set_option maxHeartbeats 4000000 in
theorem Given_any (ra : Option Addr) (n c : Nat) (f : Nat → Int) (w : World) (hr : IRow w ra n f) (hn : n ≤ 9223372036854775807) :
    Calls Tryd.prog 11 #[.slice ra n c] w fun e w' => e = .returned (.int .i64 (givE n f)) ∧ w = w' := by
  have HR := Lib.hid hr
  clear hr
  by_cases h : 16 < n
  · have l : (n : Int) > 16 := by omega
    have e : givE n f = 6 := if_pos h
    go_enter Tryd.func11, Tryd.ntmps11
    go_wp2_with fail
    go_ret
    exact ⟨by (try rw [e]); rfl, rfl⟩
  · have l : ¬ (n : Int) > 16 := by omega
    have S0 : Hid (∀ j, j < 0 → -1125899906842624 ≤ f j ∧ f j ≤ 1125899906842624) := fun j hj => by omega
    go_enter Tryd.func11, Tryd.ntmps11
    go_wp2_with fail
    go_loopg [3] n (fun g s3 wx => ∃ i : Nat, s3 = .int .i64 i ∧ g = n - i ∧ i ≤ n ∧ wx = w ∧ Hid (∀ j, j < i → -1125899906842624 ≤ f j ∧ f j ≤ 1125899906842624))
    case atStart => exact ⟨0, rfl, rfl, Nat.zero_le _, rfl, S0⟩
    case round =>
      clear S0
      obtain ⟨i, rfl, rfl, hi, rfl, S⟩ := hrel
      by_cases hlt : i < n
      · have wk : IntKind.i64.wrap ((i : Int) + 1) = ((i + 1 : Nat) : Int) := by rw [IntWalk.i64_in _ (by omega)]; omega
        obtain ⟨lg, lo, rfl, hlg, hlc⟩ := HR.out (by omega)
        have p1 := hlc i hlt
        obtain ⟨x, hx⟩ : ∃ x, f i = x := ⟨_, rfl⟩
        rw [hx] at p1
        have li : (i : Int) < (n : Int) := by omega
        by_cases c1 : x < -1125899906842624
        · have e : givE n f = 1 := by
            unfold givE
            rw [if_neg h, if_neg]
            unfold okF
            intro q
            have := (of_decide_eq_true q) i hlt
            omega
          go_wp2_with fail
          go_ret
          exact ⟨by (try rw [e]); rfl, rfl⟩
        · by_cases c2 : x > 1125899906842624
          · have e : givE n f = 1 := by
              unfold givE
              rw [if_neg h, if_neg]
              unfold okF
              intro q
              have := (of_decide_eq_true q) i hlt
              omega
            go_wp2_with fail
            go_ret
            exact ⟨by (try rw [e]); rfl, rfl⟩
          · have T : Hid (∀ j, j < i + 1 → -1125899906842624 ≤ f j ∧ f j ≤ 1125899906842624) := fun j hj => by
              by_cases q : j = i
              · subst q; omega
              · exact S.out j (by omega)
            clear S
            go_wp2_with fail
            go_roundg (n - (i + 1))
            case measure => omega
            case rel => exact ⟨i + 1, rfl, rfl, by omega, rfl, T⟩
      · have e : i = n := by omega
        subst e
        have e : givE i f = 0 := by
          unfold givE
          rw [if_neg h, if_pos]
          unfold okF
          exact decide_eq_true S.out
        go_wp2_with fail
        go_ret
        exact ⟨by (try rw [e]); rfl, rfl⟩

/-- The set of a number, the first index being the lowest bit. -/
def bitR (t : Nat) : Nat → Bool := fun i => t.testBit i

set_option maxHeartbeats 4000000 in
theorem rSum_any (ra : Option Addr) (n c : Nat) (f : Nat → Int) (t : Nat) (w : World) (hr : IRow w ra n f) (hn : n ≤ 16) (hf : ∀ i, i < n → -1125899906842624 ≤ f i ∧ f i ≤ 1125899906842624) (ht : t < 9223372036854775808) :
    Calls Tryd.prog 29 #[.slice ra n c, .int .i64 (t : Int)] w fun e w' => e = .returned (.int .i64 (smS (bitR t) f n)) ∧ w = w' := by
  have HR := Lib.hid hr
  have HF := Lib.hid hf
  have CH := fun i (hi : i < 63) W => Lib.hid (Has_any t i W ht hi)
  clear hr hf
  go_enter Tryd.func29, Tryd.ntmps29
  go_wp2_with fail
  go_loopg [6, 5] n (fun g s6 s5 wx => ∃ i : Nat, s6 = .int .i64 i ∧ s5 = .int .i64 (smS (bitR t) f i) ∧ g = n - i ∧ i ≤ n ∧ wx = w)
  case atStart => exact ⟨0, rfl, rfl, rfl, Nat.zero_le _, rfl⟩
  case round =>
    obtain ⟨i, rfl, rfl, rfl, hi, rfl⟩ := hrel
    by_cases hlt : i < n
    · have wk : IntKind.i64.wrap ((i : Int) + 1) = ((i + 1 : Nat) : Int) := by rw [IntWalk.i64_in _ (by omega)]; omega
      obtain ⟨lg, lo, rfl, hlg, hlc⟩ := HR.out (by omega)
      have p1 := hlc i hlt
      have li : (i : Int) < (n : Int) := by omega
      have hst : smS (bitR t) f (i + 1) = smS (bitR t) f i + if t.testBit i = true then f i else 0 := rfl
      have b1 := smS_bd (p := bitR t) (f := f) (B := 1125899906842624) (n := i) (by decide) (fun j hj => HF.out j (by omega))
      have b2 := HF.out i hlt
      have CI := CH i (by omega)
      generalize smS (bitR t) f i = x at *
      generalize f i = y at *
      cases hb : t.testBit i with
      | true =>
        rw [hb] at hst CI
        rw [if_pos rfl] at hst
        have ws : IntKind.i64.wrap (x + y) = x + y := IntWalk.i64_in _ (by omega)
        clear b1 b2 hlc
        go_wp2_with (go_at_call 38; (with_reducible refine (((CI _).out).mono ?_)); rintro e w2 ⟨rfl, rfl⟩)
        go_roundg (n - (i + 1))
        case measure => omega
        case rel => exact ⟨i + 1, rfl, by rw [hst], rfl, by omega, rfl⟩
      | false =>
        rw [hb] at hst CI
        rw [if_neg (by decide), Int.add_zero] at hst
        clear b1 b2 hlc
        go_wp2_with (go_at_call 38; (with_reducible refine (((CI _).out).mono ?_)); rintro e w2 ⟨rfl, rfl⟩)
        go_roundg (n - (i + 1))
        case measure => omega
        case rel => exact ⟨i + 1, rfl, by rw [hst], rfl, by omega, rfl⟩
    · have e : i = n := by omega
      subst e
      go_wp2_with fail
      go_ret
      exact ⟨rfl, rfl⟩

set_option maxHeartbeats 4000000 in
theorem rInd_any (ra : Option Addr) (n c t : Nat) (w : World) (hn : n ≤ 16) (ht : t < 9223372036854775808) :
    Calls Tryd.prog 31 #[.slice ra n c, .int .i64 (t : Int)] w fun e w' => Below w.heap.size w w' ∧ ∃ pa pc, e = .returned (.slice pa (ixs (bitR t) n).length pc) ∧ w'.ownsRow w.heap.size 3 1 (.slice pa (ixs (bitR t) n).length pc) (ixs (bitR t) n).length ((ixs (bitR t) n).map fun i => Value.int .i64 (i : Nat)) := by
  have CH := fun i (hi : i < 63) W => Lib.hid (Has_any t i W ht hi)
  have S0 : Hid (Below w.heap.size w w ∧ w.ownsRow w.heap.size 3 1 (.slice none 0 0) (ixs (bitR t) 0).length ((ixs (bitR t) 0).map fun i => Value.int .i64 (i : Nat))) := ⟨Below.refl _ _, ⟨rfl, .inl ⟨rfl, rfl⟩⟩⟩
  obtain ⟨i0, hi0, hz0, hz1, hz2⟩ := info_parts (show (Tryd.prog.info? 3).map (fun i => (i.zero, i.size, i.bytes)) = some (some (Value.int IntKind.i64 0), 1, 8) by kernel_rfl)
  have HI := Lib.hid (And.intro hi0 (And.intro hz0 (And.intro hz1 hz2)))
  clear hi0 hz0 hz1 hz2
  go_enter Tryd.func31, Tryd.ntmps31
  go_wp2_with fail
  go_loopg [6, 5] n (fun g s6 s5 wx => ∃ i : Nat, s6 = .int .i64 i ∧ g = n - i ∧ i ≤ n ∧ Hid (Below w.heap.size w wx ∧ wx.ownsRow w.heap.size 3 1 s5 (ixs (bitR t) i).length ((ixs (bitR t) i).map fun i => Value.int .i64 (i : Nat))))
  case atStart => exact ⟨0, rfl, rfl, Nat.zero_le _, S0⟩
  case round =>
    clear S0
    obtain ⟨i, rfl, rfl, hi, S⟩ := hrel
    rename World => W1
    obtain ⟨pa, pc, hpv⟩ := own_form S.out.2
    subst hpv
    by_cases hlt : i < n
    · have wk : IntKind.i64.wrap ((i : Int) + 1) = ((i + 1 : Nat) : Int) := by rw [IntWalk.i64_in _ (by omega)]; omega
      have li : (i : Int) < (n : Int) := by omega
      have CI := CH i (by omega)
      have hx := ixs_step (bitR t) i
      have hbi : bitR t i = t.testBit i := rfl
      rw [hbi] at hx
      cases hb : t.testBit i with
      | true =>
        rw [hb] at CI hx
        rw [if_pos rfl] at hx
        have T0 := Lib.hid hx
        have hl : (ixs (bitR t) i).length ≤ i := by unfold ixs; exact Nat.le_trans (List.length_filter_le _ _) (by simp)
        have S2 := S.out.2
        have S1 := S.out.1
        generalize ixs (bitR t) i = l at *
        have B5 : Hid (Below W1.heap.size W1 (W1.alloc (Obj.cells #[.int .i64 (i : Int)] 3))) := (Below.refl _ _).alloc (Nat.le_refl _) _
        have O5 : Hid ((W1.alloc (Obj.cells #[.int .i64 (i : Int)] 3)).ownsRow w.heap.size 3 1 (.slice pa l.length pc) l.length (l.map fun i => Value.int .i64 (i : Nat))) := own_only S2 (Only.of_below (S := fun _ => False) B5.out) (fun _ _ q => q)
        have A5 : Hid (∀ m u, [Value.int .i64 (i : Int)][m]? = some u → (W1.alloc (Obj.cells #[.int .i64 (i : Int)] 3)).cell? ((⟨W1.heap.size, 0, none⟩ : Addr).add m) = some u) := one_news (by simp [go_sem])
        have L5 : Hid (w.heap.size ≤ (W1.alloc (Obj.cells #[.int .i64 (i : Int)] 3)).heap.size) := by
          show _ ≤ _
          have := B5.out.size
          have := S1.size
          simp
          omega
        clear hx S
        go_upto_region 6 with (go_at_call 38; (with_reducible refine (((CI _).out).mono ?_)); rintro e w2 ⟨rfl, rfl⟩)
        go_wp2_with (at_builtin; refine wpList_append_lies _ rfl _ _ 22 rfl w.heap.size 3 i0 (.int .i64 0) 1 8 Tryd.underlying22 HI.out.1 HI.out.2.1 HI.out.2.2.1 HI.out.2.2.2 rfl (by decide) _ _ _ rfl O5.out ⟨W1.heap.size, 0, none⟩ 1 1 [.int .i64 (i : Int)] rfl rfl A5.out (by intro u hu; simp at hu; subst hu; rfl) (by omega) (by unfold maxLen; omega) (by omega) L5.out _ rfl ?_; intro q5 cap5 W5 hown hgrow hat hqlt)
        have hA := grown_only (Below.refl _ _) hgrow
        have T : Hid (Below w.heap.size w W5 ∧ W5.ownsRow w.heap.size 3 1 (.slice (some ⟨q5, 0, none⟩) (l.length + 1) cap5) (ixs (bitR t) (i + 1)).length ((ixs (bitR t) (i + 1)).map fun i => Value.int .i64 (i : Nat))) := by
          rw [T0.out, List.length_append, List.map_append]
          exact ⟨(below_on S1 B5.out).trans (hA.below (below_on S1 B5.out).size (fun c hc => (O5.out.lt c hc).1)), hown⟩
        clear hown hgrow hat hqlt hA B5 O5 A5 L5
        go_roundg (n - (i + 1))
        case measure => omega
        case rel => exact ⟨i + 1, rfl, rfl, by omega, T⟩
      | false =>
        rw [hb] at CI hx
        rw [if_neg (by decide), List.append_nil] at hx
        go_wp2_with (go_at_call 38; (with_reducible refine (((CI _).out).mono ?_)); rintro e w2 ⟨rfl, rfl⟩)
        go_roundg (n - (i + 1))
        case measure => omega
        case rel => exact ⟨i + 1, rfl, rfl, by omega, by rw [hx]; exact S⟩
    · have e : i = n := by omega
      subst e
      go_wp2_with fail
      go_ret
      exact ⟨S.out.1, pa, pc, rfl, S.out.2⟩
end Go.Proofs.YtjonhhmapbibaaaDoor
