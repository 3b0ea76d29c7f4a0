/- Layer 2: lists of fractions, and their sums: what they come to, and the reference's All. -/
import Derived.Test.YtjggnmbdgagkoaaROps
import Derived.Test.YtjggnmbdgagkoaaRRef9
import Derived.Test.YtjggnmbdgagkoaaRLawStore
namespace Go.Proofs.Ytjggnmbdgagkoaa
set_option linter.unusedVariables false
open Go.RowKit Go.Shelf

/-- A list of fractions, as it lies in cells. -/
def Frs (W : World) (b o : Nat) (l : List (Int × Int)) : Prop := ∀ k (h : k < l.length), W.cell? ⟨b, o + k * 2, none⟩ = some (.int .i64 l[k].1) ∧ W.cell? ⟨b, o + k * 2 + 1, none⟩ = some (.int .i64 l[k].2)
structure FrI (x : Int × Int) : Prop where
  n0 : -9223372036854775808 ≤ x.1
  n1 : x.1 ≤ 9223372036854775807
  d0 : -9223372036854775808 ≤ x.2
  d1 : x.2 ≤ 9223372036854775807
def allV (l : List (Int × Int)) : Bool := l.all fun x => vB x.1 x.2
theorem allV_cons (x : Int × Int) (r : List (Int × Int)) : allV (x :: r) = (vB x.1 x.2 && allV r) := by simp [allV]
/-- The sum of valid fractions, one after another. -/
def sumT : List (Int × Int) → Int → Int → Int × Int × Int
  | [], n, d => (n, d, 0)
  | x :: r, n, d => if (addT n d x.1 x.2).2.2 = 0 then sumT r (addT n d x.1 x.2).1 (addT n d x.1 x.2).2.1 else (0, 0, (addT n d x.1 x.2).2.2)
theorem Frs.on {W W2 : World} {b o : Nat} {l : List (Int × Int)} (h : Frs W b o l) (hl : b < W.heap.size) (hb : Below W.heap.size W W2) : Frs W2 b o l := fun k hk =>
  ⟨(hb.cell (p := ⟨b, o + k * 2, none⟩) hl).trans (h k hk).1, (hb.cell (p := ⟨b, o + k * 2 + 1, none⟩) hl).trans (h k hk).2⟩

set_option maxHeartbeats 4000000 in
theorem refAll_any (l : List (Int × Int)) (b o cp : Nat) (w : World) (hl : l.length ≤ 2000) (hb : b < w.heap.size) (hQ : Hid (Frs w b o l)) (hO : Hid (∀ x ∈ l, FrI x)) :
    Calls Try.prog 29 #[.slice (some ⟨b, o, none⟩) l.length cp] w fun e w' => e = .returned (.bool (allV l)) ∧ Below w.heap.size w w' := by
  obtain ⟨v, hv⟩ : ∃ v, allV l = v := ⟨_, rfl⟩
  rw [hv]
  have HV := Lib.hid hv
  clear hv
  have S0 := Lib.hid (Below.refl w.heap.size w)
  go_enter Try.func29, Try.ntmps29
  go_wp2
  go_loopg [3] l.length (fun g s3 wx => ∃ (k : Nat), s3 = .int .i64 k ∧ g = l.length - k ∧ k ≤ l.length ∧ Hid (allV (l.drop k) = v) ∧ Hid (Below w.heap.size w wx))
  case atStart => exact ⟨0, rfl, rfl, Nat.zero_le _, HV, S0⟩
  case round =>
    clear S0 HV
    obtain ⟨k, rfl, rfl, hk, R, S⟩ := hrel
    by_cases hlt : k < l.length
    · have hd := List.drop_eq_getElem_cons hlt
      obtain ⟨q0, q1⟩ := hQ.out k hlt
      have Qk := hO.out l[k] (List.getElem_mem hlt)
      have R2 := R.out
      rw [hd, allV_cons] at R2
      have C := fun w => Lib.hid (refValid_any _ _ w Qk.n0 Qk.n1 Qk.d0 Qk.d1)
      generalize l[k].1 = a at *
      generalize l[k].2 = c at *
      have t0 := (S.out.cell (p := ⟨b, o + k * 2, none⟩) hb).trans q0
      have t1 := (S.out.cell (p := ⟨b, o + k * 2 + 1, none⟩) hb).trans q1
      have HR2 := Lib.hid R2
      clear hd q0 q1 Qk R R2
      have wk : IntKind.i64.wrap ((k : Int) + 1) = ((k + 1 : Nat) : Int) := by rw [IntWalk.i64_in _ (by omega)]; omega
      cases hc : vB a c
      · simp only [hc] at C
        have R3 := HR2.out
        rw [hc, Bool.false_and] at R3
        subst R3
        clear HR2 hc
        go_wp2_with fail
        (with_reducible refine ((C _).out).mono ?_)
        rintro e w1 ⟨rfl, hb1⟩
        have S1 := Lib.hid (below_on S.out hb1)
        clear hb1 C S t0 t1
        go_wp2_with fail
        go_ret
        exact ⟨rfl, S1.out⟩
      · simp only [hc] at C
        have R3 := HR2.out
        rw [hc, Bool.true_and] at R3
        have HR3 := Lib.hid R3
        clear HR2 hc R3
        go_wp2_with fail
        (with_reducible refine ((C _).out).mono ?_)
        rintro e w1 ⟨rfl, hb1⟩
        have S1 := Lib.hid (below_on S.out hb1)
        clear hb1 C S t0 t1
        go_wp2_with fail
        go_roundg (l.length - (k + 1))
        case measure => omega
        case rel => exact ⟨k + 1, rfl, rfl, by omega, HR3, S1⟩
    · have hk2 : k = l.length := by omega
      subst hk2
      have R2 := R.out
      rw [List.drop_length] at R2
      have R3 : true = v := R2
      subst R3
      clear R R2 
      go_wp2_with fail
      go_ret
      exact ⟨rfl, S.out⟩

end Go.Proofs.Ytjggnmbdgagkoaa
