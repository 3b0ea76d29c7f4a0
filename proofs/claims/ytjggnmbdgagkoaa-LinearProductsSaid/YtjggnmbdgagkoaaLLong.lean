/- Layer 4: long matrices; valid lists. -/
import Derived.Test.YtjggnmbdgagkoaaLRProd
import Derived.Test.YtjggnmbdgagkoaaLAwake
namespace Go.Proofs.Ytjggnmbdgagkoaa
set_option linter.unusedVariables false
open Go.RowKit Go.Shelf

theorem long1_any (ra : Option Addr) (n c : Nat) (w : World) (hn : n ≤ 9223372036854775807) :
    Calls Try.prog 43 #[.slice ra n c] w fun e w' => e = .returned (.bool (decide (20 < n))) ∧ Below w.heap.size w w' := by
  go_enter Try.func43, Try.ntmps43
  go_wp2_with fail
  go_ret
  exact ⟨by simp; omega, Below.refl _ _⟩

theorem idxL_any (ma : Option Addr) (mc R : Nat) (Ra : Nat → Option Addr) (Ln Ka : Nat → Nat) (Z : Nat → Nat → Int) (w : World) (hM : AMat w ma R Ra Ln Ka Z) (hR : R ≤ 1000) :
    Calls Try.prog 69 #[.slice ma R mc, .func (.func 43) #[] #[]] w fun e w' => Below w.heap.size w w' ∧ ((e = .returned (.int .i64 (-1)) ∧ ∀ i, i < R → ¬ 20 < Ln i) ∨ ∃ i, i < R ∧ e = .returned (.int .i64 (i : Nat)) ∧ 20 < Ln i) := by
  have HM := Lib.hid hM
  clear hM
  go_enter Try.func69, Try.ntmps69
  go_wp2_with fail
  have S0 : Hid (Below w.heap.size w w ∧ ∀ l, l < 0 → ¬ 20 < Ln l) := ⟨Below.refl _ _, fun l h => by omega⟩
  go_loopg [8] R (fun g s8 wx => ∃ i : Nat, s8 = .int .i64 i ∧ g = R - i ∧ i ≤ R ∧ Hid (Below w.heap.size w wx ∧ ∀ l, l < i → ¬ 20 < Ln l))
  case atStart => exact ⟨0, rfl, rfl, Nat.zero_le _, S0⟩
  case round =>
    clear S0
    obtain ⟨i, rfl, rfl, hi, S⟩ := hrel
    rename World => W1
    by_cases hlt : i < R
    · have wk : IntKind.i64.wrap ((i : Int) + 1) = ((i + 1 : Nat) : Int) := by rw [IntWalk.i64_in _ (by omega)]; omega
      obtain ⟨mb, mo, rfl, hmb, htop⟩ := HM.out.top (by omega)
      have p1 := (S.out.1.cell (p := ⟨mb, mo + i, none⟩) hmb).trans (htop i hlt)
      obtain ⟨tv, htv⟩ : ∃ v, decide (20 < Ln i) = v := ⟨_, rfl⟩
      have CI0 := long1_any (Ra i) (Ln i) (Ka i) W1 (HM.out.small i hlt)
      rw [htv] at CI0
      have CI := Lib.hid CI0
      have HTV := Lib.hid htv
      clear CI0 htv hmb htop
      go_wp2_with fail
      (with_reducible refine ((CI.out).mono ?_))
      rintro e w2 ⟨rfl, hb⟩
      have HB := Lib.hid (below_on S.out.1 hb)
      clear CI p1 hb
      cases tv
      · go_wp2_with fail
        have T : Hid (Below w.heap.size w w2 ∧ ∀ l, l < i + 1 → ¬ 20 < Ln l) := ⟨HB.out, fun l hl => by
          by_cases e : l = i
          · rw [e]; exact of_decide_eq_false HTV.out
          · exact S.out.2 l (by omega)⟩
        go_roundg (R - (i + 1))
        case measure => omega
        case rel => exact ⟨i + 1, rfl, rfl, by omega, T⟩
      · go_wp2_with fail
        go_ret
        exact ⟨HB.out, .inr ⟨i, hlt, rfl, of_decide_eq_true HTV.out⟩⟩
    · have e : i = R := by omega
      subst e
      go_wp2_with fail
      go_ret
      exact ⟨S.out.1, .inl ⟨rfl, S.out.2⟩⟩

def lgB (R : Nat) (Ln : Nat → Nat) : Bool := decide (12 < R ∨ ∃ i, i < R ∧ 20 < Ln i)
theorem contL_any (ma : Option Addr) (mc R : Nat) (Ra : Nat → Option Addr) (Ln Ka : Nat → Nat) (Z : Nat → Nat → Int) (w : World) (hM : AMat w ma R Ra Ln Ka Z) (hR : R ≤ 12) :
    Calls Try.prog 42 #[.slice ma R mc, .func (.func 43) #[] #[]] w fun e w' => e = .returned (.bool (lgB R Ln)) ∧ Below w.heap.size w w' := by
  have CI := Lib.hid (idxL_any ma mc R Ra Ln Ka Z w hM (by omega))
  clear hM
  go_enter Try.func42, Try.ntmps42
  go_wp2_with fail
  (with_reducible refine ((CI.out).mono ?_))
  rintro e w2 ⟨hb, ⟨rfl, h⟩ | ⟨i, hi, rfl, h⟩⟩
  · have hd : lgB R Ln = false := decide_eq_false fun g => by
      rcases g with g | ⟨i, hi, g⟩
      · omega
      · exact h i hi g
    have HD := Lib.hid hd
    clear hd h
    go_wp2_with fail
    go_ret
    exact ⟨by rw [HD.out]; simp, hb⟩
  · have hd : lgB R Ln = true := decide_eq_true (.inr ⟨i, hi, h⟩)
    have HD := Lib.hid hd
    clear hd h
    go_wp2_with fail
    go_ret
    exact ⟨by rw [HD.out]; simp, hb⟩

theorem long_any (ma : Option Addr) (mc R : Nat) (Ra : Nat → Option Addr) (Ln Ka : Nat → Nat) (Z : Nat → Nat → Int) (w : World) (hM : AMat w ma R Ra Ln Ka Z) (hR : R ≤ 9223372036854775807) :
    Calls Try.prog 11 #[.slice ma R mc] w fun e w' => e = .returned (.bool (lgB R Ln)) ∧ Below w.heap.size w w' := by
  by_cases h : 12 < R
  · have hd : lgB R Ln = true := decide_eq_true (.inl h)
    have HD := Lib.hid hd
    have t1 : (12 : Int) < (R : Int) := by omega
    clear hd
    go_enter Try.func11, Try.ntmps11
    go_wp2_with fail
    go_ret
    exact ⟨by rw [HD.out]; rfl, Below.refl _ _⟩
  · have CC := Lib.hid (contL_any ma mc R Ra Ln Ka Z w hM (by omega))
    have t1 : ¬ (12 : Int) < (R : Int) := by omega
    clear hM
    generalize lgB R Ln = tb at *
    go_enter Try.func11, Try.ntmps11
    go_wp2_with fail
    (with_reducible refine ((CC.out).mono ?_))
    rintro e w2 ⟨rfl, hb⟩
    go_wp2_with fail
    go_ret
    exact ⟨rfl, hb⟩

set_option maxRecDepth 100000 in
set_option maxHeartbeats 2000000 in
theorem refAllE_any (ao : Option Addr) (cp : Nat) (w : World) :
    Calls Try.prog 29 #[.slice ao 0 cp] w fun e w' => e = .returned (.bool true) ∧ Below w.heap.size w w' := by
  go_enter Try.func29, Try.ntmps29
  go_wp2
  go_loop [3] (fun s3 => s3 = .int .i64 0) (fun _ => 0)
  case atStart => rfl
  case round =>
    obtain rfl := hrel
    go_wp2_with fail
    go_ret
    exact ⟨rfl, Below.refl _ _⟩

def aV (n : Nat) (X : Nat → Int × Int) : Bool := decide (∀ k, k < n → vB (X k).1 (X k).2 = true)
theorem IFr.frl {W : World} {xa : Option Addr} {n : Nat} {X : Nat → Int × Int} (h : IFr W xa n X) : FrL W xa ((List.range n).map X) := fun hl => by
  obtain ⟨g, o, h1, h2, h3⟩ := h (by simpa using hl)
  refine ⟨g, o, h1, h2, fun k hk => ?_⟩
  have hk' : k < n := by simpa using hk
  simp only [List.getElem_map, List.getElem_range]
  exact h3 k hk'
theorem allV_aV (n : Nat) (X : Nat → Int × Int) : allV ((List.range n).map X) = aV n X := by
  unfold allV aV
  rw [Bool.eq_iff_iff, List.all_eq_true, decide_eq_true_iff]
  constructor
  · intro h k hk
    exact h (X k) (List.mem_map.2 ⟨k, by simpa using hk, rfl⟩)
  · intro h x hx
    obtain ⟨k, hk, rfl⟩ := List.mem_map.1 hx
    exact h k (by simpa using hk)
theorem refAllX_any (xa : Option Addr) (n xc : Nat) (X : Nat → Int × Int) (w : World) (hx : IFr w xa n X) (hr : ∀ k, k < n → FrI (X k)) (hn : n ≤ 20) :
    Calls Try.prog 29 #[.slice xa n xc] w fun e w' => e = .returned (.bool (aV n X)) ∧ Below w.heap.size w w' := by
  by_cases h0 : n = 0
  · subst h0
    refine (refAllE_any xa xc w).mono ?_
    rintro e w' ⟨rfl, hb⟩
    exact ⟨by simp [aV], hb⟩
  · obtain ⟨g, o, rfl, h2, h3⟩ := hx (by omega)
    have hf : Frs w g o ((List.range n).map X) := fun k hk => by
      have hk' : k < n := by simpa using hk
      simp only [List.getElem_map, List.getElem_range]
      exact h3 k hk'
    have := refAll_any ((List.range n).map X) g o xc w (by simp; omega) h2 hf (fun x hx => by
      obtain ⟨k, hk, rfl⟩ := List.mem_map.1 hx
      exact hr k (by simpa using hk))
    rw [List.length_map, List.length_range, allV_aV] at this
    exact this

end Go.Proofs.Ytjggnmbdgagkoaa
