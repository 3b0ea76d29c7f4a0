/- The walk of Parse. -/
import Derived.Test.YtbpcfgeefelfdaaDoorParse2
namespace Go.Proofs.YtbpcfgeefelfdaaDoor
open Go.RowKit

theorem formS_dg (u : List UInt8) (k : Nat) (ds : List UInt8) (h : formS u k = some ds) : ∀ c ∈ ds, dg c = true := by
  have hrep : ∀ n, ∀ c ∈ List.replicate n (48 : UInt8), dg c = true := fun n c hc => by
    obtain ⟨_, rfl⟩ := List.mem_replicate.1 hc
    exact dg_48
  rw [formS_cut] at h
  split at h
  · rename_i hc
    cases h
    intro c hm
    rw [List.mem_append, List.mem_append] at hm
    have hw : dsB (u.take (pre np u)) = true := by have := hc.1; unfold wholeB at this; simp at this; exact this.1
    rcases hm with (hm | hm) | hm
    · exact pre_all dg _ ((dsB_iff _).1 hw).2 c hm
    · by_cases hl : pre np u < u.length
      · have := hc.2 hl
        unfold partB at this
        simp at this
        exact pre_all dg _ ((dsB_iff _).1 this.1).2 c hm
      · rw [List.drop_eq_nil_of_le (by omega)] at hm; cases hm
    · exact hrep _ c hm
  · cases h

theorem unS_pre (l : List UInt8) : Lib.trimPrefix l [45] = unS l ∧ Lib.hasPrefix l [45] = decide (l.head? = some 45) := by
  cases l with
  | nil => exact ⟨rfl, rfl⟩
  | cons c r =>
    unfold Lib.trimPrefix Lib.hasPrefix unS
    by_cases h : c = 45
    · subst h; simp
    · have h' : ([45] : List UInt8).isPrefixOf (c :: r) = false := by
        have : ((45 : UInt8) == c) = false := beq_eq_false_iff_ne.2 (fun e => h e.symm)
        simp [List.isPrefixOf, this]
      rw [h']
      simp [h]

theorem rep48 : ∀ n, Lib.repeatL [48] n = List.replicate n 48
  | 0 => rfl
  | n + 1 => by
    show [48] ++ Lib.repeatL [48] n = _
    rw [rep48 n]; rfl

def outOf (neg : Bool) : Option Int → Int × Int
  | none => (0, 5)
  | some n => (if neg then -n else n, 0)

theorem par_of {l u ds : List UInt8} {k : Nat} {neg : Bool} {V : Option Int} (hu : u = unS l) (hf : formS u k = some ds) (hV : valGo 0 ds = V) (hn : neg = decide (l.head? = some 45)) :
    parseS l k = outOf neg V := by
  unfold parseS
  rw [← hu, hf]
  simp only [hV]
  cases V with
  | none => rfl
  | some n =>
    rw [hn]
    simp [outOf]

/-- What Parse comes to. -/
def ParOut (l : List UInt8) (k : Nat) (w : World) (e : Ending) (w' : World) : Prop :=
  e = .returned (.tuple #[.int .i64 (parseS l k).1, .int .i64 (parseS l k).2]) ∧ Below w.heap.size w w'

set_option maxHeartbeats 400000 in
theorem Parse_range (s : ByteArray) (k : Int) (w : World) (hk : cntB k = false) :
    Calls Tryd.prog 12 #[.string s, .int .i64 k] w fun e w' => e = .returned (.tuple #[.int .i64 0, .int .i64 2]) ∧ w = w' := by
  have Hk := Lib.hid hk
  clear hk
  go_enter Tryd.func12, Tryd.ntmps12
  go_wp2_with (go_at_call 20; refine ((isCount_any _ _).mono ?_); rintro e w' ⟨rfl, rfl⟩; rw [Hk.out])
  go_ret2
  exact ⟨rfl, rfl⟩

set_option maxHeartbeats 1000000 in
theorem Parse_ok (s : ByteArray) (k : Nat) (w : World) (hk : k ≤ 9) (hs : s.size ≤ 1073741824) :
    Calls Tryd.prog 12 #[.string s, .int .i64 k] w (ParOut s.data.toList k w) := by
  have Hk := Lib.hid (cntB_yes (d := k) ⟨by omega, by omega⟩)
  have hun := unS_pre s.data.toList
  obtain ⟨U, hU⟩ : ∃ U : ByteArray, U = ⟨(Lib.trimPrefix s.data.toList [45]).toArray⟩ := ⟨_, rfl⟩
  have hUl : U.data.toList = unS s.data.toList := by rw [hU, hun.1]
  have hUs : U.size ≤ s.size := by
    have h1 : U.data.toList.length ≤ s.data.toList.length := by
      rw [hUl]; unfold unS; split <;> simp
    simpa using h1
  obtain ⟨neg, hneg⟩ : ∃ neg : Bool, neg = decide (s.data.toList.head? = some 45) := ⟨_, rfl⟩
  have Hun := Lib.hid hun
  have HU := Lib.hid hU
  have HUl := Lib.hid hUl
  have Hneg := Lib.hid hneg
  clear hun hU hUl hneg
  go_enter Tryd.func12, Tryd.ntmps12
  go_wp2_with (go_at_call 20; refine ((isCount_any _ _).mono ?_); rintro e w' ⟨rfl, rfl⟩; rw [Hk.out])
  refine (Tryd.strings_CutPrefix s ⟨#[45]⟩ _).mono ?_
  rintro e w' ⟨rfl, rfl⟩
  rw [show (⟨#[45]⟩ : ByteArray).data.toList = [45] from rfl, ← HU.out, Hun.out.2, ← Hneg.out]
  go_wp2_with fail
  refine (cut_any U _ (by omega)).mono ?_
  rintro e w' ⟨A, B, rfl, hA, hB, nn, rfl⟩
  obtain ⟨p, hp⟩ : ∃ p : Bool, p = decide (pre np U.data.toList < U.data.toList.length) := ⟨_, rfl⟩
  rw [← hp]
  have hAs : A.size ≤ U.size := by
    have : A.data.toList.length ≤ U.data.toList.length := by rw [hA]; simp; omega
    simpa using this
  have hBs : B.size ≤ U.size := by
    have : B.data.toList.length ≤ U.data.toList.length := by rw [hB]; simp
    simpa using this
  have hf := formS_cut U.data.toList k
  rw [← hA, ← hB] at hf
  have Hf := Lib.hid hf
  have Hp := Lib.hid hp
  have HA := Lib.hid hA
  have HB := Lib.hid hB
  clear hf hp hA hB
  have hbel : Below w'.heap.size w' (w'.drewN nn) := below_drewN (Below.refl _ _) nn
  have Hbel := Lib.hid hbel
  clear hbel
  obtain ⟨w1, hw1⟩ : ∃ w1, w1 = w'.drewN nn := ⟨_, rfl⟩
  rw [← hw1] at Hbel
  rw [← hw1]
  clear hw1
  by_cases hW : wholeB A.data.toList = true
  · have HW := Lib.hid hW
    clear hW
    cases p with
    | false =>
      have hnil : B.data.toList = [] := by
        rw [HB.out]
        have := Hp.out
        simp at this
        exact List.drop_eq_nil_of_le (by simp; omega)
      have hB0 : B.size = 0 := str_nil hnil
      have hBk : (B.size : Int) ≤ (k : Int) := by omega
      have Hok : Hid (formS U.data.toList k = some (A.data.toList ++ B.data.toList ++ List.replicate (k - B.size) 48)) := Lib.hid (by
        have := Hf.out
        rw [if_pos ⟨HW.out, fun h => by have := Hp.out; simp at this; simp at h; omega⟩] at this
        simpa using this)
      clear hnil hB0
      go_wp2_with (go_at_call 24; refine ((isWhole_any _ _ (by unfold maxLen; omega)).mono ?_); rintro e w' ⟨rfl, rfl⟩; rw [HW.out])
      rw [show (k : Int) - (B.size : Int) = ((k - B.size : Nat) : Int) from by omega]
      refine (Tryd.strings_Repeat ⟨#[48]⟩ (k - B.size) _ (by omega) (by show 1 * (k - B.size) ≤ _; omega)).mono ?_
      rintro e w2 ⟨rfl, hb2⟩
      have hbel2 := Lib.hid (Hbel.out.trans (hb2.mono Hbel.out.size))
      clear hb2
      rw [show (⟨#[48]⟩ : ByteArray).data.toList = [48] from rfl, rep48]
      obtain ⟨R, hR⟩ : ∃ R : ByteArray, R = ⟨(List.replicate (k - B.size) (48 : UInt8)).toArray⟩ := ⟨_, rfl⟩
      have hRs : R.size ≤ 9 := by rw [hR]; show (List.replicate (k - B.size) (48 : UInt8)).toArray.size ≤ 9; simp; omega
      rw [← hR]
      have hall : (A ++ B ++ R).data.toList = A.data.toList ++ B.data.toList ++ List.replicate (k - B.size) 48 := by rw [hR]; simp
      rw [← hall] at Hok
      have Hall := Lib.hid (formS_dg _ _ _ Hok.out)
      have hABs : (A ++ B ++ R).size ≤ 1099511627776 := by
        rw [ByteArray.size_append, ByteArray.size_append]; omega
      clear hR hall
      obtain ⟨D, hD⟩ : ∃ D, D = A ++ B ++ R := ⟨_, rfl⟩
      have hs1 : A.size + B.size ≤ 4611686018427387904 := by omega
      have hs2 : (A ++ B).size + R.size ≤ 4611686018427387904 := by rw [ByteArray.size_append]; omega
      go_wp2_with fail
      rw [← hD]
      rw [← hD] at Hok Hall hABs
      clear hD hs1 hs2
      refine (value_any D _ hABs Hall.out).mono ?_
      rintro e w3 ⟨rfl, hb3⟩
      have hbel3 := Lib.hid (hbel2.out.trans (hb3.mono hbel2.out.size))
      clear hb3
      obtain ⟨V, hV⟩ : ∃ V, V = valGo 0 D.data.toList := ⟨_, rfl⟩
      have hpar := par_of HUl.out Hok.out hV.symm Hneg.out
      rw [← hV]
      have Hpar := Lib.hid hpar
      have HV := Lib.hid hV
      clear hpar hV
      cases V with
      | none =>
        go_wp2
        go_ret2
        exact ⟨by rw [Hpar.out]; rfl, hbel3.out⟩
      | some n =>
        have hbd := valGo_bd _ _ _ Hall.out (by omega) (by omega) HV.out.symm
        have hn0 := hbd.1
        have hn1 := hbd.2
        clear hbd
        cases neg with
        | false =>
          go_wp2
          go_ret2
          exact ⟨by rw [Hpar.out]; rfl, hbel3.out⟩
        | true =>
          go_wp2
          go_ret2
          exact ⟨by rw [Hpar.out]; rfl, hbel3.out⟩
    | true =>
      by_cases hP : partB B.data.toList k = true
      · have HP := Lib.hid hP
        have hBk : (B.size : Int) ≤ (k : Int) := by
          have h1 : B.data.toList.length ≤ k := by unfold partB at hP; simp at hP; simpa using hP.2
          have h2 : B.size ≤ k := by simpa using h1
          omega
        have Hok : Hid (formS U.data.toList k = some (A.data.toList ++ B.data.toList ++ List.replicate (k - B.size) 48)) := Lib.hid (by
          have := Hf.out
          rw [if_pos ⟨HW.out, fun _ => HP.out⟩] at this
          simpa using this)
        clear hP
        go_wp2_with (first
          | (go_at_call 24; refine ((isWhole_any _ _ (by unfold maxLen; omega)).mono ?_); rintro e w' ⟨rfl, rfl⟩; rw [HW.out])
          | (go_at_call 25; refine ((isPart_any _ _ _ (by unfold maxLen; omega)).mono ?_); rintro e w' ⟨rfl, rfl⟩; rw [HP.out]))
        rw [show (k : Int) - (B.size : Int) = ((k - B.size : Nat) : Int) from by omega]
        refine (Tryd.strings_Repeat ⟨#[48]⟩ (k - B.size) _ (by omega) (by show 1 * (k - B.size) ≤ _; omega)).mono ?_
        rintro e w2 ⟨rfl, hb2⟩
        have hbel2 := Lib.hid (Hbel.out.trans (hb2.mono Hbel.out.size))
        clear hb2
        rw [show (⟨#[48]⟩ : ByteArray).data.toList = [48] from rfl, rep48]
        obtain ⟨R, hR⟩ : ∃ R : ByteArray, R = ⟨(List.replicate (k - B.size) (48 : UInt8)).toArray⟩ := ⟨_, rfl⟩
        have hRs : R.size ≤ 9 := by rw [hR]; show (List.replicate (k - B.size) (48 : UInt8)).toArray.size ≤ 9; simp; omega
        rw [← hR]
        have hall : (A ++ B ++ R).data.toList = A.data.toList ++ B.data.toList ++ List.replicate (k - B.size) 48 := by rw [hR]; simp
        rw [← hall] at Hok
        have Hall := Lib.hid (formS_dg _ _ _ Hok.out)
        have hABs : (A ++ B ++ R).size ≤ 1099511627776 := by
          rw [ByteArray.size_append, ByteArray.size_append]; omega
        clear hR hall
        obtain ⟨D, hD⟩ : ∃ D, D = A ++ B ++ R := ⟨_, rfl⟩
        have hs1 : A.size + B.size ≤ 4611686018427387904 := by omega
        have hs2 : (A ++ B).size + R.size ≤ 4611686018427387904 := by rw [ByteArray.size_append]; omega
        go_wp2_with fail
        rw [← hD]
        rw [← hD] at Hok Hall hABs
        clear hD hs1 hs2
        refine (value_any D _ hABs Hall.out).mono ?_
        rintro e w3 ⟨rfl, hb3⟩
        have hbel3 := Lib.hid (hbel2.out.trans (hb3.mono hbel2.out.size))
        clear hb3
        obtain ⟨V, hV⟩ : ∃ V, V = valGo 0 D.data.toList := ⟨_, rfl⟩
        have hpar := par_of HUl.out Hok.out hV.symm Hneg.out
        rw [← hV]
        have Hpar := Lib.hid hpar
        have HV := Lib.hid hV
        clear hpar hV
        cases V with
        | none =>
          go_wp2
          go_ret2
          exact ⟨by rw [Hpar.out]; rfl, hbel3.out⟩
        | some n =>
          have hbd := valGo_bd _ _ _ Hall.out (by omega) (by omega) HV.out.symm
          have hn0 := hbd.1
          have hn1 := hbd.2
          clear hbd
          cases neg with
          | false =>
            go_wp2
            go_ret2
            exact ⟨by rw [Hpar.out]; rfl, hbel3.out⟩
          | true =>
            go_wp2
            go_ret2
            exact ⟨by rw [Hpar.out]; rfl, hbel3.out⟩
      · have hP' : partB B.data.toList k = false := by simpa using hP
        have HP := Lib.hid hP'
        clear hP hP'
        go_wp2_with (first
          | (go_at_call 24; refine ((isWhole_any _ _ (by unfold maxLen; omega)).mono ?_); rintro e w' ⟨rfl, rfl⟩; rw [HW.out])
          | (go_at_call 25; refine ((isPart_any _ _ _ (by unfold maxLen; omega)).mono ?_); rintro e w' ⟨rfl, rfl⟩; rw [HP.out]))
        go_ret2
        refine ⟨?_, Hbel.out⟩
        have hpar : parseS s.data.toList k = (0, 7) := by
          unfold parseS
          rw [← HUl.out, Hf.out, if_neg (fun h => by
            have h2 := h.2 (by have := Hp.out; simp at this; simpa using this)
            rw [HP.out] at h2; cases h2)]
        rw [hpar]
        rfl
  · have hW' : wholeB A.data.toList = false := by simpa using hW
    have HW := Lib.hid hW'
    clear hW hW'
    go_wp2_with (go_at_call 24; refine ((isWhole_any _ _ (by unfold maxLen; omega)).mono ?_); rintro e w' ⟨rfl, rfl⟩; rw [HW.out])
    go_ret2
    refine ⟨?_, Hbel.out⟩
    have hpar : parseS s.data.toList k = (0, 7) := by
      unfold parseS
      rw [← HUl.out, Hf.out, if_neg (by rw [HW.out]; simp)]
    rw [hpar]
    rfl

end Go.Proofs.YtbpcfgeefelfdaaDoor
