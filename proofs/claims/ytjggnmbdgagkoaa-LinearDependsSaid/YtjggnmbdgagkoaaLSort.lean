/- Layer 4: slices.IsSorted, and slices.Clone at rows. -/
import Derived.Test.YtjggnmbdgagkoaaLTrn
namespace Go.Proofs.Ytjggnmbdgagkoaa
set_option linter.unusedVariables false
open Go.RowKit Go.Shelf

theorem isNaN_any (x : Int) (w : World) : Calls Try.prog 80 #[.int .i64 x] w fun e w' => e = .returned (.bool false) ∧ ∃ k, w' = w.drewN k := by
  have h0 : (x != x) = false := by simp
  have h1 : (x == x) = true := by simp
  go_enter Try.func80, Try.ntmps80
  go_wp2_with fail
  go_ret
  exact ⟨rfl, 0, rfl⟩
theorem cmpLess_any (x y : Int) (w : World) (h : ¬ x < y) : Calls Try.prog 61 #[.int .i64 x, .int .i64 y] w fun e w' => e = .returned (.bool false) ∧ ∃ k, w' = w.drewN k := by
  have CX := fun w => Lib.hid (isNaN_any x w)
  have CY := fun w => Lib.hid (isNaN_any y w)
  have hd : decide (x < y) = false := decide_eq_false h
  go_enter Try.func61, Try.ntmps61
  go_wp2_with fail
  (with_reducible refine (((CX _).out).mono ?_))
  rintro e w1 ⟨rfl, k, rfl⟩
  go_wp2_with fail
  go_ret
  exact ⟨rfl, k, rfl⟩

theorem sorted_nil (w : World) : Calls Try.prog 37 #[.slice none 0 0] w fun e w' => e = .returned (.bool true) ∧ Below w.heap.size w w' := by
  have w0 : IntKind.i64.wrap (((0 : Nat) : Int) - 1) = -1 := IntWalk.i64_in _ (by omega)
  have w00 : IntKind.i64.wrap ((0 : Int) - 1) = -1 := IntWalk.i64_in _ (by omega)
  go_enter Try.func37, Try.ntmps37
  go_wp2_with fail
  go_loopg [3] 0 (fun g s3 wx => s3 = .int .i64 (-1) ∧ wx = w)
  case atStart => exact ⟨rfl, rfl⟩
  case round =>
    obtain ⟨rfl, rfl⟩ := hrel
    go_wp2_with fail
    go_ret
    exact ⟨rfl, Below.refl _ _⟩
set_option maxHeartbeats 4000000 in
theorem sorted_some (g cap k : Nat) (p : Nat → Nat) (w : World) (hg : g < w.heap.size) (hc : ∀ j, j < k → w.cell? ⟨g, j, none⟩ = some (.int .i64 (p j))) (hk : k ≤ 1000) (up : ∀ l l', l < l' → l' < k → p l < p l') :
    Calls Try.prog 37 #[.slice (some ⟨g, 0, none⟩) k cap] w fun e w' => e = .returned (.bool true) ∧ Below w.heap.size w w' := by
  have HC := Lib.hid (And.intro hg hc)
  have HU := Lib.hid up
  have w0 : IntKind.i64.wrap ((k : Int) - 1) = (k : Int) - 1 := IntWalk.i64_in _ (by omega)
  clear hg hc up
  go_enter Try.func37, Try.ntmps37
  go_wp2_with fail
  clear w0
  have S0 : Hid (Below w.heap.size w w) := Below.refl _ _
  go_loopg [3] (k - 1) (fun g s3 wx => ∃ i : Int, s3 = .int .i64 i ∧ g = i.toNat ∧ i ≤ (k : Int) - 1 ∧ -1 ≤ i ∧ Hid (Below w.heap.size w wx))
  case atStart => exact ⟨(k : Int) - 1, rfl, by omega, Int.le_refl _, by omega, S0⟩
  case round =>
    clear S0
    obtain ⟨i, rfl, rfl, hi, hi2, S⟩ := hrel
    rename World => W1
    by_cases h : 0 < i
    · obtain ⟨j, rfl⟩ : ∃ j : Nat, i = ((j + 1 : Nat) : Int) := ⟨(i - 1).toNat, by omega⟩
      have hjk : j + 1 < k := by omega
      have wj : IntKind.i64.wrap (((j + 1 : Nat) : Int) - 1) = (j : Nat) := by rw [IntWalk.i64_in _ (by omega)]; omega
      have c1 := (S.out.cell (p := ⟨g, j + 1, none⟩) HC.out.1).trans (HC.out.2 (j + 1) hjk)
      have c2 := (S.out.cell (p := ⟨g, j, none⟩) HC.out.1).trans (HC.out.2 j (by omega))
      have hup := HU.out j (j + 1) (by omega) hjk
      have CL := fun w => Lib.hid (cmpLess_any (p (j + 1) : Nat) (p j : Nat) w (by omega))
      generalize p (j + 1) = pa at *
      generalize p j = pb at *
      clear hup
      go_upto_region 4 with fail
      go_quiet ((go_at_call 61; (with_reducible exact Calls.quiet_of ((CL _).out))))
      have T := Lib.hid (below_drewN' S.out nq)
      clear c1 c2 CL S
      go_wp2_with fail
      go_roundg j
      case measure => omega
      case rel => exact ⟨j, rfl, by omega, by omega, by omega, T⟩
    · have hd : decide (0 < i) = false := decide_eq_false h
      go_wp2_with fail
      go_ret
      exact ⟨rfl, S.out⟩
theorem sorted_any (B k : Nat) (pv : Value) (p : Nat → Nat) (w : World) (ho : w.ownsRow B 3 1 pv k ((List.range k).map fun l => Value.int .i64 (p l))) (hk : k ≤ 1000) (up : ∀ l l', l < l' → l' < k → p l < p l') :
    Calls Try.prog 37 #[pv] w fun e w' => e = .returned (.bool true) ∧ Below w.heap.size w w' := by
  have h2 := ho
  rcases ho.2 with ⟨rfl, _⟩ | ⟨g, cap, cur, rfl, _⟩
  · exact sorted_nil w
  · refine sorted_some g cap k p w (h2.lt g rfl).2 (fun j hj => ?_) hk up
    have := h2.cells (g := g) rfl j (.int .i64 (p j)) (by simp [hj])
    rwa [show (⟨g, 0, none⟩ : Addr).add j = ⟨g, j, none⟩ by unfold Addr.add; split <;> simp_all] at this

set_option maxRecDepth 100000 in
/-- An own list of rows is copied. -/
theorem clone_rows (B n : Nat) (v : Value) (xs : List Value) (w : World) (ho : w.ownsRow B 29 1 v n xs) (h1 : ∀ u ∈ xs, u.oneCell' = true) (hn : n ≤ 1000) :
    Calls Try.prog 38 #[v] w fun e w' => ∃ v2, e = .returned v2 ∧ w'.ownsRow w.heap.size 29 1 v2 n xs ∧ Below w.heap.size w w' := by
  have h2 := ho
  rcases ho.2 with ⟨rfl, rfl⟩ | ⟨g, cap, cur, rfl, _⟩
  · have e : xs = [] := by have := ho.1; simpa using this
    subst e
    have heq : ∀ w : World, (Go.binOp .eql 23 (.slice none 0 0) (.slice none 0 0)).run Try.prog w = .ok (.bool true) w := fun _ => by kernel_rfl
    go_enter Try.func38, Try.ntmps38
    go_wp2_with fail
    go_ret
    exact ⟨_, rfl, World.ownsRow_nil _ _ _ _, Below.refl _ _⟩
  · have hl := ho.1
    have HG := Lib.hid (h2.lt g rfl).2
    have HC : Hid (∀ j u, xs[j]? = some u → w.cell? ((⟨g, 0, none⟩ : Addr).add j) = some u) := h2.cells (g := g) rfl
    have H1 := Lib.hid h1
    have O : Hid ((w.alloc (Obj.cells #[] 29)).ownsRow w.heap.size 29 1 (.slice (some ⟨w.heap.size, 0, none⟩) 0 0) 0 []) := World.ownsRow_made w #[] 0 (Nat.le_refl _) (by unfold maxLen; omega) rfl
    have BA : Hid (Below w.heap.size w (w.alloc (Obj.cells #[] 29))) := (Below.refl _ _).alloc (Nat.le_refl _) _
    have NW : Hid (∀ j u, xs[j]? = some u → (w.alloc (Obj.cells #[] 29)).cell? ((⟨g, 0, none⟩ : Addr).add j) = some u) := fun j u hu => by
      have := HC.out j u hu
      rw [show (⟨g, 0, none⟩ : Addr).add j = ⟨g, j, none⟩ by unfold Addr.add; split <;> simp_all] at this ⊢
      exact (BA.out.cell (p := ⟨g, j, none⟩) HG.out).trans this
    have HL := Lib.hid hl
    obtain ⟨i0, hi0, hz0, hz1, hz2⟩ := info_parts (show (Try.prog.info? 29).map (fun i => (i.zero, i.size, i.bytes)) = some (some (Value.slice none 0 0), 1, 24) by kernel_rfl)
    have heq : ∀ w : World, (Go.binOp .eql 23 (.slice (some ⟨g, 0, none⟩) n cap) (.slice none 0 0)).run Try.prog w = .ok (.bool false) w := fun _ => by kernel_rfl
    clear ho h2 h1 hl HC
    go_enter Try.func38, Try.ntmps38
    go_wp2_with (at_builtin; refine wpList_append_own _ rfl _ _ 23 rfl w.heap.size 29 i0 (.slice none 0 0) 1 24 Try.underlying23 hi0 hz0 hz1 hz2 rfl (by decide) _ _ _ rfl O.out ⟨g, 0, none⟩ n cap xs rfl HL.out NW.out H1.out (by unfold maxLen; omega) (by omega) (by simp) ?_; intro v' w9 hown hgrow _)
    go_ret
    refine ⟨_, rfl, by simpa using hown, below_grown BA.out O.out hgrow⟩

end Go.Proofs.Ytjggnmbdgagkoaa
