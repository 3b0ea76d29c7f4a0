/- Layer 7: subsets.Check, walked. -/
import Derived.Test.YtjonhhmapbibaaaDoorUChk
namespace Go.Proofs.YtjonhhmapbibaaaDoor
open Go.ChangeShapes Go.WideShapes Go.ChangeAt Go.RowKit Go.Joins Go.Deep Go.Shelf
set_option linter.unusedVariables false

def rowZ (zss : List (List Int)) (j : Nat) : List Int := zss.getD j []
/-- A list of lists of numbers, as it lies. -/
def LZ (W : World) (pa : Option Addr) (zss : List (List Int)) : Prop := 0 < zss.length → ∃ g o, pa = some ⟨g, o, none⟩ ∧ g < W.heap.size ∧ ∀ i, i < zss.length → ∃ qa qc, W.cell? ⟨g, o + i, none⟩ = some (.slice qa (rowZ zss i).length qc) ∧ ZRow W qa (rowZ zss i)
theorem LZ.on {W W2 : World} {pa : Option Addr} {zss : List (List Int)} (h : LZ W pa zss) (hb : Below W.heap.size W W2) : LZ W2 pa zss := fun hn => by
  obtain ⟨g, o, h1, h2, h3⟩ := h hn
  refine ⟨g, o, h1, Nat.lt_of_lt_of_le h2 hb.size, fun i hi => ?_⟩
  obtain ⟨qa, qc, h4, h5⟩ := h3 i hi
  exact ⟨qa, qc, (hb.cell (p := ⟨g, o + i, none⟩) h2).trans h4, h5.on hb⟩
/-- The set of a row. -/
def stZ (n : Nat) (zss : List (List Int)) (j : Nat) : Nat := setZ n (rowZ zss j) (rowZ zss j).length
/-- The sets of the first rows, as one. -/
def metZ (n : Nat) (zss : List (List Int)) : Nat → Nat
  | 0 => 0
  | j + 1 => metZ n zss j ||| stZ n zss j
def leastI (zss : List (List Int)) (j : Nat) : Int := if j = 0 then 0 else nth (rowZ zss (j - 1)) 0
theorem leastI_succ (zss : List (List Int)) (j : Nat) : leastI zss (j + 1) = nth (rowZ zss j) 0 := rfl
def ChkP (n : Nat) (f : Nat → Int) (zss : List (List Int)) (i : Nat) : Prop := ∀ j, j < i → Bal n f (rowZ zss j) ∧ leastI zss j ≤ nth (rowZ zss j) 0 ∧ metZ n zss j &&& stZ n zss j = 0
def ChkS (n : Nat) (f : Nat → Int) (zss : List (List Int)) : Prop := ChkP n f zss zss.length ∧ metZ n zss zss.length = 2 ^ n - 1
instance (n : Nat) (f : Nat → Int) (zss : List (List Int)) : Decidable (ChkS n f zss) := by unfold ChkS ChkP; infer_instance
theorem ChkP.succ {n : Nat} {f : Nat → Int} {zss : List (List Int)} {i : Nat} (h : ChkP n f zss i) (h1 : Bal n f (rowZ zss i)) (h2 : leastI zss i ≤ nth (rowZ zss i) 0) (h3 : metZ n zss i &&& stZ n zss i = 0) : ChkP n f zss (i + 1) := fun j hj => by
  by_cases q : j = i
  · rw [q]; exact ⟨h1, h2, h3⟩
  · exact h j (by omega)
theorem metZ_lt {n : Nat} {f : Nat → Int} {zss : List (List Int)} : ∀ i, ChkP n f zss i → metZ n zss i < 2 ^ n
  | 0, _ => Nat.two_pow_pos n
  | i + 1, h => by
    unfold metZ
    exact Nat.or_lt_two_pow (metZ_lt i (fun j hj => h j (by omega))) (setZ_lt _ (h i (by omega)).1.1)
theorem Check_bad (ra : Option Addr) (n c : Nat) (f : Nat → Int) (v : Value) (w : World) (hr : IRow w ra n f) (hn : n ≤ 9223372036854775807) (hg : givE n f ≠ 0) :
    Calls Tryd.prog 10 #[.slice ra n c, v] w fun e w' => Below w.heap.size w w' ∧ e = .returned (.tuple #[.bool false, .int .i64 (givE n f)]) := by
  have CV := Lib.hid (valid_any ra n c f w hr hn)
  have q : (givE n f != 0) = true := by simpa using hg
  generalize givE n f = er at *
  clear hr hg
  go_enter Tryd.func10, Tryd.ntmps10
  go_wp2_with (go_at_call 20; (with_reducible refine ((CV.out).mono ?_)); rintro e w2 ⟨rfl, hb2⟩)
  go_ret2
  exact ⟨hb2, rfl⟩
set_option maxRecDepth 100000 in
set_option maxHeartbeats 16000000 in
theorem Check_any (ra : Option Addr) (n c : Nat) (f : Nat → Int) (pa : Option Addr) (pc : Nat) (zss : List (List Int)) (w : World) (hr : IRow w ra n f) (hn : n ≤ 16) (ho : okF n f = true) (hz : LZ w pa zss) (hm : zss.length ≤ 9223372036854775806) (hzl : ∀ j, (rowZ zss j).length ≤ 9223372036854775807) :
    Calls Tryd.prog 10 #[.slice ra n c, .slice pa zss.length pc] w fun e w' => Below w.heap.size w w' ∧ e = .returned (.tuple #[.bool (decide (ChkS n f zss)), .int .i64 0]) := by
  have hg : givE n f = 0 := by unfold givE; rw [if_neg (by omega), if_pos ho]
  have hf := of_decide_eq_true ho
  have CV := Lib.hid (valid_any ra n c f w hr (by omega))
  rw [hg] at CV
  have h2 := p2_le hn
  have HZ := Lib.hid (fun W (h : Below w.heap.size w W) => hz.on h)
  have CB := fun W qa qc j (h : Below w.heap.size w W) (hq : ZRow W qa (rowZ zss j)) => Lib.hid (isBal_any ra n c f qa qc (rowZ zss j) W (hr.on h) hq hn (hzl j) hf)
  have CS := fun W qa qc j (hq : ZRow W qa (rowZ zss j)) (hu : UpP n (rowZ zss j) (rowZ zss j).length) => Lib.hid (subsetOf_any n qa qc (rowZ zss j) W hq hn hu)
  have CW := fun W => Lib.hid (whole_any n hn W)
  have S0 : Hid (ChkP n f zss 0) := fun j h => by omega
  clear hr hz hf hg ho hzl
  go_enter Tryd.func10, Tryd.ntmps10
  go_upto_region 4 with (go_at_call 20; (with_reducible refine ((CV.out).mono ?_)); rintro e w2 ⟨rfl, hb2⟩)
  have HB := Lib.hid hb2
  clear hb2 CV
  go_wp2_with fail
  go_loopg [19, 7, 8] zss.length (fun g s19 s7 s8 wx => ∃ i : Nat, s19 = .int .i64 i ∧ s7 = .int .u64 (metZ n zss i : Nat) ∧ s8 = .int .i64 (leastI zss i) ∧ g = zss.length - i ∧ i ≤ zss.length ∧ wx = w2 ∧ Hid (ChkP n f zss i))
  case atStart => exact ⟨0, rfl, rfl, rfl, rfl, Nat.zero_le _, rfl, S0⟩
  case round =>
    clear S0
    obtain ⟨i, rfl, rfl, rfl, rfl, hi, rfl, S⟩ := hrel
    rename World => W1
    by_cases hlt : i < zss.length
    · have wi : IntKind.i64.wrap ((i : Int) + 1) = ((i + 1 : Nat) : Int) := by rw [IntWalk.i64_in _ (by omega)]; omega
      have li : (i : Int) < (zss.length : Int) := by omega
      obtain ⟨pg, po, rfl, _, hpc⟩ := HZ.out W1 HB.out (by omega)
      obtain ⟨qa, qc, p1, hq⟩ := hpc i hlt
      have HQ := Lib.hid hq
      have KB := CB W1 qa qc i HB.out hq
      clear hpc hq
      by_cases h1 : Bal n f (rowZ zss i)
      · rw [decide_eq_true h1] at KB
        have KS := CS W1 qa qc i HQ.out h1.1
        have h0 : (0 : Int) < ((rowZ zss i).length : Int) := by have := h1.2.1; omega
        obtain ⟨qg, qo, rfl, _, hqc⟩ := HQ.out h1.2.1
        have p2 := hqc 0 h1.2.1
        rw [Nat.add_zero] at p2
        by_cases hl : nth (rowZ zss i) 0 < leastI zss i
        · have q1 : decide (nth (rowZ zss i) 0 < leastI zss i) = true := decide_eq_true hl
          have hb : decide (ChkS n f zss) = false := decide_eq_false (fun h => by have := (h.1 i hlt).2.1; omega)
          generalize nth (rowZ zss i) 0 = x at *
          generalize leastI zss i = y at *
          generalize metZ n zss i = u at *
          clear hqc S h1 hl KS
          go_wp2_with (go_at_call 26; (with_reducible refine ((KB.out).mono ?_)); rintro e w3 ⟨rfl, rfl⟩)
          go_ret2
          exact ⟨HB.out, by (first | rfl | (rw [hb]; rfl) | rw [hb])⟩
        · have q1 : decide (nth (rowZ zss i) 0 < leastI zss i) = false := decide_eq_false hl
          have hmt := metZ_lt i S.out
          have hst : stZ n zss i < 2 ^ n := setZ_lt _ h1.1
          have ka : bits .and .u64 ((metZ n zss i : Nat) : Int) ((stZ n zss i : Nat) : Int) = ((metZ n zss i &&& stZ n zss i : Nat) : Int) := u64_and_nat _ _ (by omega) (by omega)
          have ko : bits .or .u64 ((metZ n zss i : Nat) : Int) ((stZ n zss i : Nat) : Int) = ((metZ n zss i ||| stZ n zss i : Nat) : Int) := u64_or_nat _ _ (by omega) (by omega)
          rw [show setZ n (rowZ zss i) (rowZ zss i).length = stZ n zss i from rfl] at KS
          by_cases h3 : metZ n zss i &&& stZ n zss i = 0
          · have q3 : (((metZ n zss i &&& stZ n zss i : Nat) : Int) != 0) = false := by rw [h3]; rfl
            have S2 := Lib.hid (S.out.succ h1 (by omega) h3)
            have em : metZ n zss (i + 1) = metZ n zss i ||| stZ n zss i := rfl
            have el : leastI zss (i + 1) = nth (rowZ zss i) 0 := rfl
            rw [h3] at ka q3
            generalize nth (rowZ zss i) 0 = x at *
            generalize leastI zss i = y at *
            generalize hU2 : metZ n zss (i + 1) = u2 at *
            generalize metZ n zss i ||| stZ n zss i = u3 at *
            generalize metZ n zss i = u at *
            generalize stZ n zss i = s at *
            generalize hL2 : leastI zss (i + 1) = y2 at *
            clear hqc S h1 hl h3 hmt hst
            go_wp2_with (first
              | (go_at_call 26; (with_reducible refine ((KB.out).mono ?_)); rintro e w3 ⟨rfl, rfl⟩)
              | (go_at_call 27; (with_reducible refine ((KS.out).mono ?_)); rintro e w3 ⟨rfl, rfl⟩))
            go_roundg (zss.length - (i + 1))
            case measure => omega
            case rel => exact ⟨i + 1, rfl, by rw [hU2, em], by rw [hL2, el], rfl, by omega, rfl, S2⟩
          · have q3 : (((metZ n zss i &&& stZ n zss i : Nat) : Int) != 0) = true := by simp; omega
            have hb : decide (ChkS n f zss) = false := decide_eq_false (fun h => h3 (h.1 i hlt).2.2)
            generalize nth (rowZ zss i) 0 = x at *
            generalize leastI zss i = y at *
            generalize metZ n zss i &&& stZ n zss i = u3 at *
            generalize metZ n zss i = u at *
            generalize stZ n zss i = s at *
            clear hqc S h1 hl h3 hmt hst ko
            go_wp2_with (first
              | (go_at_call 26; (with_reducible refine ((KB.out).mono ?_)); rintro e w3 ⟨rfl, rfl⟩)
              | (go_at_call 27; (with_reducible refine ((KS.out).mono ?_)); rintro e w3 ⟨rfl, rfl⟩))
            go_ret2
            exact ⟨HB.out, by (first | rfl | (rw [hb]; rfl) | rw [hb])⟩
      · rw [decide_eq_false h1] at KB
        have hb : decide (ChkS n f zss) = false := decide_eq_false (fun h => h1 (h.1 i hlt).1)
        generalize leastI zss i = y at *
        generalize metZ n zss i = u at *
        clear S h1
        go_wp2_with (go_at_call 26; (with_reducible refine ((KB.out).mono ?_)); rintro e w3 ⟨rfl, rfl⟩)
        go_ret2
        exact ⟨HB.out, by (first | rfl | (rw [hb]; rfl) | rw [hb])⟩
    · have li : ¬ (i : Int) < (zss.length : Int) := by omega
      have e : i = zss.length := by omega
      have hb : decide (ChkS n f zss) = (((metZ n zss i : Nat) : Int) == ((2 ^ n - 1 : Nat) : Int)) := by
        rw [e] at S ⊢
        by_cases q : metZ n zss zss.length = 2 ^ n - 1
        · rw [decide_eq_true ⟨S.out, q⟩, q]; simp
        · rw [decide_eq_false (fun h => q h.2)]; symm; simp; omega
      generalize leastI zss i = y at *
      generalize metZ n zss i = u at *
      generalize 2 ^ n - 1 = D at *
      clear S e
      go_wp2_with (go_at_call 22; (with_reducible refine (((CW _).out).mono ?_)); rintro e w3 ⟨rfl, rfl⟩)
      go_ret2
      exact ⟨HB.out, by (first | rfl | (rw [hb]; rfl) | rw [hb])⟩
end Go.Proofs.YtjonhhmapbibaaaDoor
