/- Layer 7: whole, size, indices of a set of bits. -/
import Derived.Test.YtjonhhmapbibaaaDoorUBase
namespace Go.Proofs.YtjonhhmapbibaaaDoor
open Go.ChangeShapes Go.WideShapes Go.ChangeAt Go.RowKit Go.Joins Go.Deep Go.Shelf
set_option linter.unusedVariables false

theorem p2_le {n : Nat} (h : n ≤ 16) : 2 ^ n ≤ 65536 := Nat.le_trans (Nat.pow_le_pow_right (by decide) h) (by decide)
theorem p2_cast (n : Nat) : (2 : Int) ^ n = ((2 ^ n : Nat) : Int) := by simp
theorem whole_any (n : Nat) (hn : n ≤ 16) (w : World) :
    Calls Tryd.prog 22 #[.int .i64 (n : Int)] w fun e w' => e = .returned (.int .u64 ((2 ^ n - 1 : Nat) : Int)) ∧ w = w' := by
  have h2 := p2_le hn
  have hp := Nat.two_pow_pos n
  have e0 := p2_cast n
  generalize 2 ^ n = M at h2 hp e0 ⊢
  have e1 : IntKind.u64.wrap (2 ^ n) = (M : Int) := by rw [e0, IntWalk.u64_in _ (by omega)]
  have e2 : IntKind.u64.wrap ((M : Int) - 1) = ((M - 1 : Nat) : Int) := by rw [IntWalk.u64_in _ (by omega)]; omega
  go_enter Tryd.func22, Tryd.ntmps22
  go_wp2_with (simp only [Int.toNat_natCast, e1, e2])
  go_ret
  exact ⟨rfl, rfl⟩

/-! The number of set bits, as the library reckons it. -/
def po1 (x : Int) : Int := IntKind.u64.wrap (bits .and .u64 (x / 2) 6148914691236517205 + bits .and .u64 x 6148914691236517205)
def po2 (x : Int) : Int := IntKind.u64.wrap (bits .and .u64 (x / 4) 3689348814741910323 + bits .and .u64 x 3689348814741910323)
def po3 (x : Int) : Int := bits .and .u64 (IntKind.u64.wrap (x / 16 + x)) 1085102592571150095
def po4 (x : Int) : Int := IntKind.u64.wrap (x + x / 256)
def po5 (x : Int) : Int := IntKind.u64.wrap (x + x / 65536)
def po6 (x : Int) : Int := IntKind.u64.wrap (x + x / 4294967296)
def po7 (x : Int) : Int := bits .and .i64 (wrap64 x) 127
theorem po_fin : ∀ n : Fin 2048, po7 (po6 (po5 (po4 (po3 (po2 (po1 (n.val : Int))))))) = (Lib.onesCount n.val : Int) := by decide +kernel
set_option maxRecDepth 100000 in
theorem ones64_any (x : Nat) (w : World) (h : x < 2048) :
    Calls Tryd.prog 65 #[.int .u64 (x : Int)] w fun e w' => e = .returned (.int .i64 (Lib.onesCount x : Nat)) ∧ w = w' := by
  have e := po_fin ⟨x, h⟩
  simp only at e
  obtain ⟨y1, q1⟩ : ∃ y, y = po1 x := ⟨_, rfl⟩
  rw [← q1] at e
  obtain ⟨y2, q2⟩ : ∃ y, y = po2 y1 := ⟨_, rfl⟩
  rw [← q2] at e
  obtain ⟨y3, q3⟩ : ∃ y, y = po3 y2 := ⟨_, rfl⟩
  rw [← q3] at e
  obtain ⟨y4, q4⟩ : ∃ y, y = po4 y3 := ⟨_, rfl⟩
  rw [← q4] at e
  obtain ⟨y5, q5⟩ : ∃ y, y = po5 y4 := ⟨_, rfl⟩
  rw [← q5] at e
  obtain ⟨y6, q6⟩ : ∃ y, y = po6 y5 := ⟨_, rfl⟩
  rw [← q6] at e
  unfold po7 at e
  unfold po1 at q1
  unfold po2 at q2
  unfold po3 at q3
  unfold po4 at q4
  unfold po5 at q5
  unfold po6 at q6
  generalize (Lib.onesCount x) = y at *
  go_enter Tryd.func65, Tryd.ntmps65
  go_upto_region 2 with fail
  rw [← q1]
  clear q1
  go_upto_region 3 with fail
  rw [← q2]
  clear q2
  go_upto_region 4 with fail
  rw [← q3]
  clear q3
  go_upto_region 5 with fail
  rw [← q4]
  clear q4
  go_upto_region 6 with fail
  rw [← q5]
  clear q5
  go_upto_region 7 with fail
  rw [← q6]
  clear q6
  go_wp2_with fail
  go_ret
  exact ⟨rfl, rfl⟩
theorem ones_any (x : Nat) (w : World) (h : x < 2048) :
    Calls Tryd.prog 57 #[.int .u64 (x : Int)] w fun e w' => e = .returned (.int .i64 (Lib.onesCount x : Nat)) ∧ w = w' := by
  have C := fun w => Lib.hid (ones64_any x w h)
  generalize (Lib.onesCount x) = y at *
  go_enter Tryd.func57, Tryd.ntmps57
  go_wp2_with (go_at_call 65; (with_reducible refine ((C _).out).mono ?_); rintro e w' ⟨rfl, rfl⟩)
  go_ret
  exact ⟨rfl, rfl⟩
theorem size_any (n s : Nat) (hn : n ≤ 11) (hs : s < 2 ^ n) (w : World) :
    Calls Tryd.prog 45 #[.int .u64 (s : Int)] w fun e w' => e = .returned (.int .i64 ((ixs (bitI n s) n).length : Nat)) ∧ w = w' := by
  have h2 : 2 ^ n ≤ 2048 := Nat.le_trans (Nat.pow_le_pow_right (by decide) hn) (by decide)
  rw [← pop_len n 64 s hs (by omega)]
  have C := fun w => Lib.hid (ones_any s w (by omega))
  unfold Lib.onesCount at C
  generalize (Lib.popAux 64 s) = y at *
  go_enter Tryd.func45, Tryd.ntmps45
  go_wp2_with (go_at_call 57; (with_reducible refine ((C _).out).mono ?_); rintro e w' ⟨rfl, rfl⟩)
  go_ret
  exact ⟨rfl, rfl⟩

theorem bit_test (s k : Nat) (hs : s < 18446744073709551616) : (bits .and .u64 ((s : Int) / 2 ^ k) 1 != 0) = s.testBit k := by
  have e : (s : Int) / 2 ^ k = ((s / 2 ^ k : Nat) : Int) := by rw [p2_cast, Int.natCast_ediv]
  have l : s / 2 ^ k < 18446744073709551616 := Nat.lt_of_le_of_lt (Nat.div_le_self _ _) hs
  rw [e, show (1 : Int) = ((1 : Nat) : Int) from rfl, bits_and_u64_nat _ _ l (by decide), Nat.and_one_is_mod, Nat.testBit_eq_decide_div_mod_eq]
  rcases Nat.mod_two_eq_zero_or_one (s / 2 ^ k) with q | q <;> rw [q] <;> rfl
theorem ixs_step (p : Nat → Bool) (i : Nat) : ixs p (i + 1) = ixs p i ++ if p i = true then [i] else [] := by
  unfold ixs
  rw [List.range_succ, List.filter_append]
  congr 1
  rw [List.filter_cons]
  simp

set_option maxHeartbeats 2000000 in
theorem indices_any (n s : Nat) (hn : n ≤ 16) (hs : s < 2 ^ n) (w : World) :
    Calls Tryd.prog 25 #[.int .u64 (s : Int), .int .i64 (n : Int)] w fun e w' => Below w.heap.size w w' ∧ ∃ pa pc, e = .returned (.slice pa (ixs (bitI n s) n).length pc) ∧ w'.ownsRow w.heap.size 3 1 (.slice pa (ixs (bitI n s) n).length pc) (ixs (bitI n s) n).length ((ixs (bitI n s) n).map fun i => Value.int .i64 (i : Nat)) := by
  have h2 := p2_le hn
  have S0 : Hid (Below w.heap.size w w ∧ w.ownsRow w.heap.size 3 1 (.slice none 0 0) (ixs (bitI n s) 0).length ((ixs (bitI n s) 0).map fun i => Value.int .i64 (i : Nat))) := ⟨Below.refl _ _, ⟨rfl, .inl ⟨rfl, rfl⟩⟩⟩
  obtain ⟨i0, hi0, hz0, hz1, hz2⟩ := info_parts (show (Tryd.prog.info? 3).map (fun i => (i.zero, i.size, i.bytes)) = some (some (Value.int IntKind.i64 0), 1, 8) by kernel_rfl)
  have HI := Lib.hid (And.intro hi0 (And.intro hz0 (And.intro hz1 hz2)))
  clear hi0 hz0 hz1 hz2
  go_enter Tryd.func25, Tryd.ntmps25
  go_wp2_with fail
  go_loopg [8, 5] n (fun g s8 s5 wx => ∃ i : Nat, s8 = .int .i64 i ∧ g = n - i ∧ i ≤ n ∧ Hid (Below w.heap.size w wx ∧ wx.ownsRow w.heap.size 3 1 s5 (ixs (bitI n s) i).length ((ixs (bitI n s) i).map fun i => Value.int .i64 (i : Nat))))
  case atStart => exact ⟨0, rfl, rfl, Nat.zero_le _, S0⟩
  case round =>
    clear S0
    obtain ⟨i, rfl, rfl, hi, S⟩ := hrel
    rename World => W1
    obtain ⟨pa, pc, hpv⟩ := own_form S.out.2
    subst hpv
    by_cases hlt : i < n
    · have wk : IntKind.i64.wrap ((i : Int) + 1) = ((i + 1 : Nat) : Int) := by rw [IntWalk.i64_in _ (by omega)]; omega
      have w1 : IntKind.i64.wrap ((n : Int) - 1) = ((n - 1 : Nat) : Int) := by rw [IntWalk.i64_in _ (by omega)]; omega
      have w2 : IntKind.i64.wrap (((n - 1 : Nat) : Int) - i) = ((n - 1 - i : Nat) : Int) := by rw [IntWalk.i64_in _ (by omega)]; omega
      have hb := bit_test s (n - 1 - i) (by omega)
      have hx := ixs_step (bitI n s) i
      have hbi : bitI n s i = s.testBit (n - 1 - i) := rfl
      rw [hbi] at hx
      cases ht : s.testBit (n - 1 - i) with
      | true =>
        rw [ht] at hb hx
        rw [if_pos rfl] at hx
        have T0 := Lib.hid hx
        have hl : (ixs (bitI n s) i).length ≤ i := by unfold ixs; exact Nat.le_trans (List.length_filter_le _ _) (by simp)
        have S2 := S.out.2
        have S1 := S.out.1
        generalize ixs (bitI n s) i = l at *
        have B5 : Hid (Below W1.heap.size W1 (W1.alloc (Obj.cells #[.int .i64 (i : Int)] 3))) := (Below.refl _ _).alloc (Nat.le_refl _) _
        have O5 : Hid ((W1.alloc (Obj.cells #[.int .i64 (i : Int)] 3)).ownsRow w.heap.size 3 1 (.slice pa l.length pc) l.length (l.map fun i => Value.int .i64 (i : Nat))) := own_only S2 (Only.of_below (S := fun _ => False) B5.out) (fun _ _ q => q)
        have A5 : Hid (∀ m u, [Value.int .i64 (i : Int)][m]? = some u → (W1.alloc (Obj.cells #[.int .i64 (i : Int)] 3)).cell? ((⟨W1.heap.size, 0, none⟩ : Addr).add m) = some u) := one_news (by simp [go_sem])
        have L5 : Hid (w.heap.size ≤ (W1.alloc (Obj.cells #[.int .i64 (i : Int)] 3)).heap.size) := by
          show _ ≤ _
          have := B5.out.size
          have := S1.size
          simp
          omega
        clear hx S S2
        go_upto_region 6 with fail
        go_wp2_with (at_builtin; refine wpList_append_lies _ rfl _ _ 22 rfl w.heap.size 3 i0 (.int .i64 0) 1 8 Tryd.underlying22 HI.out.1 HI.out.2.1 HI.out.2.2.1 HI.out.2.2.2 rfl (by decide) _ _ _ rfl O5.out ⟨W1.heap.size, 0, none⟩ 1 1 [.int .i64 (i : Int)] rfl rfl A5.out (by intro u hu; simp at hu; subst hu; rfl) (by omega) (by unfold maxLen; omega) (by omega) L5.out _ rfl ?_; intro q5 cap5 W5 hown hgrow hat hqlt)
        have hA := grown_only (Below.refl _ _) hgrow
        have T : Hid (Below w.heap.size w W5 ∧ W5.ownsRow w.heap.size 3 1 (.slice (some ⟨q5, 0, none⟩) (l.length + 1) cap5) (ixs (bitI n s) (i + 1)).length ((ixs (bitI n s) (i + 1)).map fun i => Value.int .i64 (i : Nat))) := by
          rw [T0.out, List.length_append, List.map_append]
          exact ⟨(below_on S1 B5.out).trans (hA.below (below_on S1 B5.out).size (fun c hc => (O5.out.lt c hc).1)), hown⟩
        clear hown hgrow hat hqlt hA B5 O5 A5 L5 hb
        go_roundg (n - (i + 1))
        case measure => omega
        case rel => exact ⟨i + 1, rfl, rfl, by omega, T⟩
      | false =>
        rw [ht] at hb hx
        rw [if_neg (by decide), List.append_nil] at hx
        rw [← hx] at S ⊢
        go_wp2_with fail
        go_roundg (n - (i + 1))
        case measure => omega
        case rel => exact ⟨i + 1, rfl, rfl, by omega, S⟩
    · have e : i = n := by omega
      subst e
      go_wp2_with fail
      go_ret
      exact ⟨S.out.1, pa, pc, rfl, S.out.2⟩
end Go.Proofs.YtjonhhmapbibaaaDoor
