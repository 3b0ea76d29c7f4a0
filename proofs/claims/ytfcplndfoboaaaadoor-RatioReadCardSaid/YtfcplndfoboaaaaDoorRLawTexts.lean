/- The walk of the law RatioTexts. -/
import Derived.Test.YtfcplndfoboaaaaDoorRParC
import Derived.Test.YtfcplndfoboaaaaDoorRParS
import Derived.Test.YtfcplndfoboaaaaDoorRSumN
import Derived.Test.YtfcplndfoboaaaaDoorRSumF
import Derived.Test.YtfcplndfoboaaaaDoorRLawMakes
import Derived.Test.YtfcplndfoboaaaaDoorRAwake
import Derived.Test.YtfcplndfoboaaaaDoorRSto
namespace Go.Proofs.YtfcplndfoboaaaaDoor
set_option linter.unusedVariables false
open Go.RowKit Go.Shelf

/-- A slice of fractions, empty or in cells. -/
def LsR (W : World) (ao : Option Addr) (l : List (Int × Int)) : Prop := l = [] ∨ ∃ b o, ao = some ⟨b, o, none⟩ ∧ b < W.heap.size ∧ Frs W b o l
theorem LsR.on {W W2 : World} {ao : Option Addr} {l : List (Int × Int)} (h : LsR W ao l) (hb : Below W.heap.size W W2) : LsR W2 ao l := by
  rcases h with rfl | ⟨b, o, rfl, h1, h2⟩
  · exact .inl rfl
  · exact .inr ⟨b, o, rfl, Nat.lt_of_lt_of_le h1 hb.size, h2.on h1 hb⟩
theorem Sum_all (l : List (Int × Int)) (ao : Option Addr) (cp : Nat) (w : World) (hl : l.length ≤ 2000) (hQ : LsR w ao l) (hO : ∀ x ∈ l, FrI x) (x y z : Int) (h : sumS l = (x, y, z)) :
    Calls Tryd.prog 6 #[.slice ao l.length cp] w fun r w' => r = .returned (.tuple #[.agg #[.int .i64 x, .int .i64 y], .int .i64 z]) ∧ Below w.heap.size w w' := by
  rcases hQ with rfl | ⟨b, o, rfl, h1, h2⟩
  · obtain ⟨c1, c2, c3⟩ := three (show ((0 : Int), (1 : Int), (0 : Int)) = (x, y, z) from h)
    subst c1; subst c2; subst c3
    exact Sum_nil ao cp w
  · exact Sum_any l b o cp w hl h1 h2 hO x y z h
theorem refAll_all (l : List (Int × Int)) (ao : Option Addr) (cp : Nat) (w : World) (hl : l.length ≤ 2000) (hQ : LsR w ao l) (hO : ∀ x ∈ l, FrI x) :
    Calls Tryd.prog 7 #[.slice ao l.length cp] w fun e w' => e = .returned (.bool (allV l)) ∧ Below w.heap.size w w' := by
  rcases hQ with rfl | ⟨b, o, rfl, h1, h2⟩
  · exact refAll_nil ao cp w
  · exact refAll_any l b o cp w hl h1 h2 hO
theorem refSum_all (l : List (Int × Int)) (ao : Option Addr) (cp : Nat) (w : World) (hl : l.length ≤ 2000) (hQ : LsR w ao l) (hv : allV l = true) (x y z : Int) (h : sumS l = (x, y, z)) :
    Calls Tryd.prog 9 #[.slice ao l.length cp] w fun r w' => r = .returned (.tuple #[.agg #[.int .i64 x, .int .i64 y], .int .i64 z]) ∧ Below w.heap.size w w' := by
  unfold sumS at h
  rw [if_pos hv] at h
  rcases hQ with rfl | ⟨b, o, rfl, h1, h2⟩
  · obtain ⟨c1, c2, c3⟩ := three (show ((0 : Int), (1 : Int), (0 : Int)) = (x, y, z) from h)
    subst c1; subst c2; subst c3
    exact refSum_nil ao cp w
  · exact refSum_any l b o cp w hl h1 h2 (Lib.hid (by unfold allV at hv; rwa [List.all_eq_true] at hv)) x y z h

set_option maxRecDepth 100000 in
set_option maxHeartbeats 16000000 in
theorem texts_mid (l : List (Int × Int)) (ao : Option Addr) (cp : Nat) (an ad : Int) (s : ByteArray) (w : World) (hT : Hid (Pow10 w.heap.size w)) (hE : Hid (EnvC w)) (a0 : -9223372036854775808 ≤ an) (a1 : an ≤ 9223372036854775807) (a2 : -9223372036854775808 ≤ ad) (a3 : ad ≤ 9223372036854775807) (hQ : Hid (LsR w ao l)) (hO : Hid (∀ x ∈ l, FrI x)) (h1 : 40 < l.length) (h2 : l.length ≤ 1000) :
    Calls Tryd.prog 3 #[.slice ao l.length cp, .agg #[.int .i64 an, .int .i64 ad], .string s] w fun e w' => e = .returned (.bool true) ∧ Below w.heap.size w w' := by
  go_enter Tryd.func3, Tryd.ntmps3
  go_wp2_with fail
  have T : Hid (Sto w (w.alloc (Obj.cells #[Value.int IntKind.i64 an, Value.int IntKind.i64 ad] 24)) [(w.heap.size, .int .i64 an, .int .i64 ad)]) := (Sto.start w).add _ _ _
  (with_reducible refine ((awake_any _ (Lib.hid (pow_on hT.out T.out.below))).mono ?_))
  rintro e w1 ⟨rfl, hb⟩
  replace T := Lib.hid (T.out.on hb)
  clear hb
  go_wp2_with fail
  go_ret
  exact ⟨rfl, T.out.below⟩

set_option maxRecDepth 100000 in
set_option maxHeartbeats 16000000 in
theorem texts_far (l : List (Int × Int)) (ao : Option Addr) (cp : Nat) (an ad : Int) (s : ByteArray) (w : World) (hT : Hid (Pow10 w.heap.size w)) (hE : Hid (EnvC w)) (a0 : -9223372036854775808 ≤ an) (a1 : an ≤ 9223372036854775807) (a2 : -9223372036854775808 ≤ ad) (a3 : ad ≤ 9223372036854775807) (hQ : Hid (LsR w ao l)) (hO : Hid (∀ x ∈ l, FrI x)) (h1 : 1005 < l.length) :
    Calls Tryd.prog 3 #[.slice ao l.length cp, .agg #[.int .i64 an, .int .i64 ad], .string s] w fun e w' => e = .returned (.bool true) ∧ Below w.heap.size w w' := by
  go_enter Tryd.func3, Tryd.ntmps3
  go_wp2_with fail
  have T : Hid (Sto w (w.alloc (Obj.cells #[Value.int IntKind.i64 an, Value.int IntKind.i64 ad] 24)) [(w.heap.size, .int .i64 an, .int .i64 ad)]) := (Sto.start w).add _ _ _
  (with_reducible refine ((awake_any _ (Lib.hid (pow_on hT.out T.out.below))).mono ?_))
  rintro e w1 ⟨rfl, hb⟩
  replace T := Lib.hid (T.out.on hb)
  clear hb
  go_wp2_with fail
  go_ret
  exact ⟨rfl, T.out.below⟩

set_option maxRecDepth 100000 in
set_option maxHeartbeats 16000000 in
theorem texts_str40 (l : List (Int × Int)) (ao : Option Addr) (cp : Nat) (an ad : Int) (s : ByteArray) (w : World) (hT : Hid (Pow10 w.heap.size w)) (hE : Hid (EnvC w)) (a0 : -9223372036854775808 ≤ an) (a1 : an ≤ 9223372036854775807) (a2 : -9223372036854775808 ≤ ad) (a3 : ad ≤ 9223372036854775807) (hQ : Hid (LsR w ao l)) (hO : Hid (∀ x ∈ l, FrI x)) (h1 : l.length ≤ 40) (h3 : 100 < s.size) :
    Calls Tryd.prog 3 #[.slice ao l.length cp, .agg #[.int .i64 an, .int .i64 ad], .string s] w fun e w' => e = .returned (.bool true) ∧ Below w.heap.size w w' := by
  go_enter Tryd.func3, Tryd.ntmps3
  go_wp2_with fail
  have T : Hid (Sto w (w.alloc (Obj.cells #[Value.int IntKind.i64 an, Value.int IntKind.i64 ad] 24)) [(w.heap.size, .int .i64 an, .int .i64 ad)]) := (Sto.start w).add _ _ _
  (with_reducible refine ((awake_any _ (Lib.hid (pow_on hT.out T.out.below))).mono ?_))
  rintro e w1 ⟨rfl, hb⟩
  replace T := Lib.hid (T.out.on hb)
  clear hb
  go_wp2_with fail
  go_ret
  exact ⟨rfl, T.out.below⟩

set_option maxRecDepth 100000 in
set_option maxHeartbeats 16000000 in
theorem texts_str5 (l : List (Int × Int)) (ao : Option Addr) (cp : Nat) (an ad : Int) (s : ByteArray) (w : World) (hT : Hid (Pow10 w.heap.size w)) (hE : Hid (EnvC w)) (a0 : -9223372036854775808 ≤ an) (a1 : an ≤ 9223372036854775807) (a2 : -9223372036854775808 ≤ ad) (a3 : ad ≤ 9223372036854775807) (hQ : Hid (LsR w ao l)) (hO : Hid (∀ x ∈ l, FrI x)) (h1 : 1000 < l.length) (h2 : l.length ≤ 1005) (h3 : 100 < s.size) :
    Calls Tryd.prog 3 #[.slice ao l.length cp, .agg #[.int .i64 an, .int .i64 ad], .string s] w fun e w' => e = .returned (.bool true) ∧ Below w.heap.size w w' := by
  go_enter Tryd.func3, Tryd.ntmps3
  go_wp2_with fail
  have T : Hid (Sto w (w.alloc (Obj.cells #[Value.int IntKind.i64 an, Value.int IntKind.i64 ad] 24)) [(w.heap.size, .int .i64 an, .int .i64 ad)]) := (Sto.start w).add _ _ _
  (with_reducible refine ((awake_any _ (Lib.hid (pow_on hT.out T.out.below))).mono ?_))
  rintro e w1 ⟨rfl, hb⟩
  replace T := Lib.hid (T.out.on hb)
  clear hb
  go_wp2_with fail
  go_ret
  exact ⟨rfl, T.out.below⟩

set_option maxRecDepth 100000 in
set_option maxHeartbeats 16000000 in
theorem texts_le (l : List (Int × Int)) (ao : Option Addr) (cp : Nat) (an ad : Int) (s : ByteArray) (w : World) (hT : Hid (Pow10 w.heap.size w)) (hE : Hid (EnvC w)) (a0 : -9223372036854775808 ≤ an) (a1 : an ≤ 9223372036854775807) (a2 : -9223372036854775808 ≤ ad) (a3 : ad ≤ 9223372036854775807) (hQ : Hid (LsR w ao l)) (hO : Hid (∀ x ∈ l, FrI x)) (h1 : l.length ≤ 40) (h3 : s.size ≤ 100) :
    Calls Tryd.prog 3 #[.slice ao l.length cp, .agg #[.int .i64 an, .int .i64 ad], .string s] w fun e w' => e = .returned (.bool true) ∧ Below w.heap.size w w' := by
  have hl : l.length ≤ 2000 := by omega
  obtain ⟨x, y, z, hS⟩ : ∃ x y z, sumS l = (x, y, z) := ⟨_, _, _, rfl⟩
  obtain ⟨t, e1, hX⟩ : ∃ t e, textT an ad = (t, e) := ⟨_, _, rfl⟩
  obtain ⟨n, d, e2, hP⟩ : ∃ n d e, parE s.data.toList = (n, d, e) := ⟨_, _, _, rfl⟩
  obtain ⟨v, hv⟩ : ∃ v, allV l = v := ⟨_, rfl⟩
  have CA := fun w h => Lib.hid (refAll_all l ao cp w hl h hO.out)
  rw [hv] at CA
  have CS := fun w h => Lib.hid (Sum_all l ao cp w hl h hO.out x y z hS)
  have CT := fun w h => Lib.hid (Text_any an ad w w.heap.size (Nat.le_refl _) h a0 a1 a2 a3 t e1 hX)
  have CV := fun w => Lib.hid (refValid_any an ad w a0 a1 a2 a3)
  have CP := fun w h hE => Lib.hid (Parse_any s (by omega) w w.heap.size (Nat.le_refl _) h hE n d e2 hP)
  have SE := fun n d e w => Lib.hid (same_eq n d e w)
  have HS := Lib.hid hS
  have HX := Lib.hid hX
  have HP := Lib.hid hP
  have HV := Lib.hid hv
  clear hS hX hP hv
  go_enter Tryd.func3, Tryd.ntmps3
  go_wp2_with fail
  have T : Hid (Sto w (w.alloc (Obj.cells #[Value.int IntKind.i64 an, Value.int IntKind.i64 ad] 24)) [(w.heap.size, .int .i64 an, .int .i64 ad)]) := (Sto.start w).add _ _ _
  (with_reducible refine ((awake_any _ (Lib.hid (pow_on hT.out T.out.below))).mono ?_))
  rintro e w1 ⟨rfl, hb⟩
  replace T := Lib.hid (T.out.on hb)
  clear hb
  go_wp2_with fail
  (with_reducible refine ((CS _ (hQ.out.on T.out.below)).out.mono ?_))
  rintro e w2 ⟨rfl, hb⟩
  replace T := Lib.hid (T.out.on hb)
  clear hb
  go_wp2_with fail
  replace T := Lib.hid (T.out.add (.int .i64 x) (.int .i64 y) 24)
  (with_reducible refine ((CA _ (hQ.out.on T.out.below)).out.mono ?_))
  rintro e w3 ⟨rfl, hb⟩
  replace T := Lib.hid (T.out.on hb)
  clear hb
  cases v
  · have q := HS.out
    unfold sumS at q
    rw [HV.out, if_neg (by simp)] at q
    obtain ⟨c1, c2, c3⟩ := three q
    subst c1; subst c2; subst c3
    clear q HS
    obtain ⟨_, p1, q1⟩ := T.out.get (w2.heap.size, .int .i64 0, .int .i64 0) (by simp)
    go_wp2_with fail
    (with_reducible refine ((SE 0 0 1 _).out.mono ?_))
    rintro e w4 ⟨rfl, hb⟩
    replace T := Lib.hid (T.out.on hb)
    clear hb
    clear p1 q1
    obtain ⟨_, p0, q0⟩ := T.out.get (w.heap.size, .int .i64 an, .int .i64 ad) (by simp)
    go_wp2_with fail
    (with_reducible refine ((CT _ (Lib.hid (pow_on hT.out T.out.below))).out.mono ?_))
    rintro e w5 ⟨rfl, hb⟩
    replace T := Lib.hid (T.out.on hb)
    clear hb
    clear p0 q0
    obtain ⟨_, p0, q0⟩ := T.out.get (w.heap.size, .int .i64 an, .int .i64 ad) (by simp)
    go_wp2_with fail
    (with_reducible refine ((CV _).out.mono ?_))
    rintro e w6 ⟨rfl, hb⟩
    replace T := Lib.hid (T.out.on hb)
    clear hb
    clear p0 q0
    cases hw : vB an ad
    · obtain ⟨c1, c2⟩ : ([] : List UInt8) = t ∧ (1 : Int) = e1 := by
        have q := HX.out
        unfold textT at q
        rw [hw, if_neg (by simp)] at q
        injection q with q1 q2; exact ⟨q1, q2⟩
      subst c1; subst c2
      clear HX hw
      go_wp2_with fail
      (with_reducible refine ((CP _ (Lib.hid (pow_on hT.out T.out.below)) (Lib.hid (hE.out.on T.out.below))).out.mono ?_))
      rintro e w7 ⟨rfl, hb⟩
      replace T := Lib.hid (T.out.on hb)
      clear hb
      cases hp : parP s.data.toList with
      | none =>
        have q1 := HP.out
        unfold parE at q1
        rw [hp] at q1
        obtain ⟨c1, c2, c3⟩ := three q1
        subst c1; subst c2; subst c3
        have RP := fun w => Lib.hid (refParse_any s (by omega) 0 0 false (by unfold parR; rw [hp]) w)
        clear q1 HP hp
        go_wp2_with fail
        replace T := Lib.hid (T.out.add (.int .i64 0) (.int .i64 0) 24)
        (with_reducible refine ((RP _).out.mono ?_))
        rintro e w8 ⟨rfl, hb⟩
        replace T := Lib.hid (T.out.on hb)
        clear hb
        obtain ⟨_, p2, q2⟩ := T.out.get (w7.heap.size, .int .i64 0, .int .i64 0) (by simp)
        go_wp2_with fail
        go_ret
        exact ⟨rfl, T.out.below.alloc T.out.below.size _⟩
      | some q =>
        obtain ⟨qn, qd⟩ := q
        have q1 := HP.out
        unfold parE at q1
        rw [hp] at q1
        obtain ⟨c1, c2, c3⟩ := three q1
        subst c1; subst c2; subst c3
        have RP := fun w => Lib.hid (refParse_any s (by omega) qn qd true (by unfold parR; rw [hp]) w)
        clear q1 HP hp
        go_wp2_with fail
        replace T := Lib.hid (T.out.add (.int .i64 qn) (.int .i64 qd) 24)
        (with_reducible refine ((RP _).out.mono ?_))
        rintro e w8 ⟨rfl, hb⟩
        replace T := Lib.hid (T.out.on hb)
        clear hb
        obtain ⟨_, p2, q2⟩ := T.out.get (w7.heap.size, .int .i64 qn, .int .i64 qd) (by simp)
        go_wp2_with fail
        go_ret
        exact ⟨rfl, T.out.below.alloc T.out.below.size _⟩
    · obtain ⟨c1, c2⟩ : txt an ad = t ∧ (0 : Int) = e1 := by
        have q := HX.out
        unfold textT at q
        rw [hw, if_pos rfl] at q
        injection q with q1 q2; exact ⟨q1, q2⟩
      subst c2
      have RT := fun w => Lib.hid (refText_any an ad w (vB_vld hw))
      rw [c1] at RT
      clear HX hw c1
      obtain ⟨_, p0, q0⟩ := T.out.get (w.heap.size, .int .i64 an, .int .i64 ad) (by simp)
      go_wp2_with fail
      (with_reducible refine ((RT _).out.mono ?_))
      rintro e w7 ⟨rfl, hb⟩
      replace T := Lib.hid (T.out.on hb)
      clear hb
      clear p0 q0
      go_wp2_with fail
      (with_reducible refine ((CP _ (Lib.hid (pow_on hT.out T.out.below)) (Lib.hid (hE.out.on T.out.below))).out.mono ?_))
      rintro e w8 ⟨rfl, hb⟩
      replace T := Lib.hid (T.out.on hb)
      clear hb
      cases hp : parP s.data.toList with
      | none =>
        have q1 := HP.out
        unfold parE at q1
        rw [hp] at q1
        obtain ⟨c1, c2, c3⟩ := three q1
        subst c1; subst c2; subst c3
        have RP := fun w => Lib.hid (refParse_any s (by omega) 0 0 false (by unfold parR; rw [hp]) w)
        clear q1 HP hp
        go_wp2_with fail
        replace T := Lib.hid (T.out.add (.int .i64 0) (.int .i64 0) 24)
        (with_reducible refine ((RP _).out.mono ?_))
        rintro e w9 ⟨rfl, hb⟩
        replace T := Lib.hid (T.out.on hb)
        clear hb
        obtain ⟨_, p2, q2⟩ := T.out.get (w8.heap.size, .int .i64 0, .int .i64 0) (by simp)
        go_wp2_with fail
        go_ret
        exact ⟨rfl, T.out.below.alloc T.out.below.size _⟩
      | some q =>
        obtain ⟨qn, qd⟩ := q
        have q1 := HP.out
        unfold parE at q1
        rw [hp] at q1
        obtain ⟨c1, c2, c3⟩ := three q1
        subst c1; subst c2; subst c3
        have RP := fun w => Lib.hid (refParse_any s (by omega) qn qd true (by unfold parR; rw [hp]) w)
        clear q1 HP hp
        go_wp2_with fail
        replace T := Lib.hid (T.out.add (.int .i64 qn) (.int .i64 qd) 24)
        (with_reducible refine ((RP _).out.mono ?_))
        rintro e w9 ⟨rfl, hb⟩
        replace T := Lib.hid (T.out.on hb)
        clear hb
        obtain ⟨_, p2, q2⟩ := T.out.get (w8.heap.size, .int .i64 qn, .int .i64 qd) (by simp)
        go_wp2_with fail
        go_ret
        exact ⟨rfl, T.out.below.alloc T.out.below.size _⟩
  · have CR := fun w h => Lib.hid (refSum_all l ao cp w hl h HV.out x y z HS.out)
    obtain ⟨_, p1, q1⟩ := T.out.get (w2.heap.size, .int .i64 x, .int .i64 y) (by simp)
    go_wp2_with fail
    (with_reducible refine ((CR _ (hQ.out.on T.out.below)).out.mono ?_))
    rintro e w4 ⟨rfl, hb⟩
    replace T := Lib.hid (T.out.on hb)
    clear hb
    clear p1 q1
    obtain ⟨_, p1, q1⟩ := T.out.get (w2.heap.size, .int .i64 x, .int .i64 y) (by simp)
    go_wp2_with fail
    replace T := Lib.hid (T.out.add (.int .i64 x) (.int .i64 y) 24)
    (with_reducible refine ((SE x y z _).out.mono ?_))
    rintro e w5 ⟨rfl, hb⟩
    replace T := Lib.hid (T.out.on hb)
    clear hb
    clear p1 q1
    obtain ⟨_, p0, q0⟩ := T.out.get (w.heap.size, .int .i64 an, .int .i64 ad) (by simp)
    go_wp2_with fail
    (with_reducible refine ((CT _ (Lib.hid (pow_on hT.out T.out.below))).out.mono ?_))
    rintro e w6 ⟨rfl, hb⟩
    replace T := Lib.hid (T.out.on hb)
    clear hb
    clear p0 q0
    obtain ⟨_, p0, q0⟩ := T.out.get (w.heap.size, .int .i64 an, .int .i64 ad) (by simp)
    go_wp2_with fail
    (with_reducible refine ((CV _).out.mono ?_))
    rintro e w7 ⟨rfl, hb⟩
    replace T := Lib.hid (T.out.on hb)
    clear hb
    clear p0 q0
    cases hw : vB an ad
    · obtain ⟨c1, c2⟩ : ([] : List UInt8) = t ∧ (1 : Int) = e1 := by
        have q := HX.out
        unfold textT at q
        rw [hw, if_neg (by simp)] at q
        injection q with q1 q2; exact ⟨q1, q2⟩
      subst c1; subst c2
      clear HX hw
      go_wp2_with fail
      (with_reducible refine ((CP _ (Lib.hid (pow_on hT.out T.out.below)) (Lib.hid (hE.out.on T.out.below))).out.mono ?_))
      rintro e w8 ⟨rfl, hb⟩
      replace T := Lib.hid (T.out.on hb)
      clear hb
      cases hp : parP s.data.toList with
      | none =>
        have q1 := HP.out
        unfold parE at q1
        rw [hp] at q1
        obtain ⟨c1, c2, c3⟩ := three q1
        subst c1; subst c2; subst c3
        have RP := fun w => Lib.hid (refParse_any s (by omega) 0 0 false (by unfold parR; rw [hp]) w)
        clear q1 HP hp
        go_wp2_with fail
        replace T := Lib.hid (T.out.add (.int .i64 0) (.int .i64 0) 24)
        (with_reducible refine ((RP _).out.mono ?_))
        rintro e w9 ⟨rfl, hb⟩
        replace T := Lib.hid (T.out.on hb)
        clear hb
        obtain ⟨_, p3, q3⟩ := T.out.get (w8.heap.size, .int .i64 0, .int .i64 0) (by simp)
        go_wp2_with fail
        go_ret
        exact ⟨rfl, T.out.below.alloc T.out.below.size _⟩
      | some q =>
        obtain ⟨qn, qd⟩ := q
        have q1 := HP.out
        unfold parE at q1
        rw [hp] at q1
        obtain ⟨c1, c2, c3⟩ := three q1
        subst c1; subst c2; subst c3
        have RP := fun w => Lib.hid (refParse_any s (by omega) qn qd true (by unfold parR; rw [hp]) w)
        clear q1 HP hp
        go_wp2_with fail
        replace T := Lib.hid (T.out.add (.int .i64 qn) (.int .i64 qd) 24)
        (with_reducible refine ((RP _).out.mono ?_))
        rintro e w9 ⟨rfl, hb⟩
        replace T := Lib.hid (T.out.on hb)
        clear hb
        obtain ⟨_, p3, q3⟩ := T.out.get (w8.heap.size, .int .i64 qn, .int .i64 qd) (by simp)
        go_wp2_with fail
        go_ret
        exact ⟨rfl, T.out.below.alloc T.out.below.size _⟩
    · obtain ⟨c1, c2⟩ : txt an ad = t ∧ (0 : Int) = e1 := by
        have q := HX.out
        unfold textT at q
        rw [hw, if_pos rfl] at q
        injection q with q1 q2; exact ⟨q1, q2⟩
      subst c2
      have RT := fun w => Lib.hid (refText_any an ad w (vB_vld hw))
      rw [c1] at RT
      clear HX hw c1
      obtain ⟨_, p0, q0⟩ := T.out.get (w.heap.size, .int .i64 an, .int .i64 ad) (by simp)
      go_wp2_with fail
      (with_reducible refine ((RT _).out.mono ?_))
      rintro e w8 ⟨rfl, hb⟩
      replace T := Lib.hid (T.out.on hb)
      clear hb
      clear p0 q0
      go_wp2_with fail
      (with_reducible refine ((CP _ (Lib.hid (pow_on hT.out T.out.below)) (Lib.hid (hE.out.on T.out.below))).out.mono ?_))
      rintro e w9 ⟨rfl, hb⟩
      replace T := Lib.hid (T.out.on hb)
      clear hb
      cases hp : parP s.data.toList with
      | none =>
        have q1 := HP.out
        unfold parE at q1
        rw [hp] at q1
        obtain ⟨c1, c2, c3⟩ := three q1
        subst c1; subst c2; subst c3
        have RP := fun w => Lib.hid (refParse_any s (by omega) 0 0 false (by unfold parR; rw [hp]) w)
        clear q1 HP hp
        go_wp2_with fail
        replace T := Lib.hid (T.out.add (.int .i64 0) (.int .i64 0) 24)
        (with_reducible refine ((RP _).out.mono ?_))
        rintro e w10 ⟨rfl, hb⟩
        replace T := Lib.hid (T.out.on hb)
        clear hb
        obtain ⟨_, p3, q3⟩ := T.out.get (w9.heap.size, .int .i64 0, .int .i64 0) (by simp)
        go_wp2_with fail
        go_ret
        exact ⟨rfl, T.out.below.alloc T.out.below.size _⟩
      | some q =>
        obtain ⟨qn, qd⟩ := q
        have q1 := HP.out
        unfold parE at q1
        rw [hp] at q1
        obtain ⟨c1, c2, c3⟩ := three q1
        subst c1; subst c2; subst c3
        have RP := fun w => Lib.hid (refParse_any s (by omega) qn qd true (by unfold parR; rw [hp]) w)
        clear q1 HP hp
        go_wp2_with fail
        replace T := Lib.hid (T.out.add (.int .i64 qn) (.int .i64 qd) 24)
        (with_reducible refine ((RP _).out.mono ?_))
        rintro e w10 ⟨rfl, hb⟩
        replace T := Lib.hid (T.out.on hb)
        clear hb
        obtain ⟨_, p3, q3⟩ := T.out.get (w9.heap.size, .int .i64 qn, .int .i64 qd) (by simp)
        go_wp2_with fail
        go_ret
        exact ⟨rfl, T.out.below.alloc T.out.below.size _⟩

set_option maxRecDepth 100000 in
set_option maxHeartbeats 16000000 in
theorem texts_over (l : List (Int × Int)) (ao : Option Addr) (cp : Nat) (an ad : Int) (s : ByteArray) (w : World) (hT : Hid (Pow10 w.heap.size w)) (hE : Hid (EnvC w)) (a0 : -9223372036854775808 ≤ an) (a1 : an ≤ 9223372036854775807) (a2 : -9223372036854775808 ≤ ad) (a3 : ad ≤ 9223372036854775807) (hQ : Hid (LsR w ao l)) (hO : Hid (∀ x ∈ l, FrI x)) (h1 : 1000 < l.length) (h2 : l.length ≤ 1005) (h3 : s.size ≤ 100) :
    Calls Tryd.prog 3 #[.slice ao l.length cp, .agg #[.int .i64 an, .int .i64 ad], .string s] w fun e w' => e = .returned (.bool true) ∧ Below w.heap.size w w' := by
  have hl : l.length ≤ 2000 := by omega
  obtain ⟨x, y, z, hS⟩ : ∃ x y z, sumS l = (x, y, z) := ⟨_, _, _, rfl⟩
  obtain ⟨t, e1, hX⟩ : ∃ t e, textT an ad = (t, e) := ⟨_, _, rfl⟩
  obtain ⟨n, d, e2, hP⟩ : ∃ n d e, parE s.data.toList = (n, d, e) := ⟨_, _, _, rfl⟩
  obtain ⟨v, hv⟩ : ∃ v, allV l = v := ⟨_, rfl⟩
  have CA := fun w h => Lib.hid (refAll_all l ao cp w hl h hO.out)
  rw [hv] at CA
  have CS := fun w h => Lib.hid (Sum_all l ao cp w hl h hO.out x y z hS)
  have CT := fun w h => Lib.hid (Text_any an ad w w.heap.size (Nat.le_refl _) h a0 a1 a2 a3 t e1 hX)
  have CV := fun w => Lib.hid (refValid_any an ad w a0 a1 a2 a3)
  have CP := fun w h hE => Lib.hid (Parse_any s (by omega) w w.heap.size (Nat.le_refl _) h hE n d e2 hP)
  have SE := fun n d e w => Lib.hid (same_eq n d e w)
  have HS := Lib.hid hS
  have HX := Lib.hid hX
  have HP := Lib.hid hP
  have HV := Lib.hid hv
  clear hS hX hP hv
  go_enter Tryd.func3, Tryd.ntmps3
  go_wp2_with fail
  have T : Hid (Sto w (w.alloc (Obj.cells #[Value.int IntKind.i64 an, Value.int IntKind.i64 ad] 24)) [(w.heap.size, .int .i64 an, .int .i64 ad)]) := (Sto.start w).add _ _ _
  (with_reducible refine ((awake_any _ (Lib.hid (pow_on hT.out T.out.below))).mono ?_))
  rintro e w1 ⟨rfl, hb⟩
  replace T := Lib.hid (T.out.on hb)
  clear hb
  go_wp2_with fail
  (with_reducible refine ((CS _ (hQ.out.on T.out.below)).out.mono ?_))
  rintro e w2 ⟨rfl, hb⟩
  replace T := Lib.hid (T.out.on hb)
  clear hb
  go_wp2_with fail
  replace T := Lib.hid (T.out.add (.int .i64 x) (.int .i64 y) 24)
  (with_reducible refine ((CA _ (hQ.out.on T.out.below)).out.mono ?_))
  rintro e w3 ⟨rfl, hb⟩
  replace T := Lib.hid (T.out.on hb)
  clear hb
  cases v
  · have q := HS.out
    unfold sumS at q
    rw [HV.out, if_neg (by simp)] at q
    obtain ⟨c1, c2, c3⟩ := three q
    subst c1; subst c2; subst c3
    clear q HS
    obtain ⟨_, p1, q1⟩ := T.out.get (w2.heap.size, .int .i64 0, .int .i64 0) (by simp)
    go_wp2_with fail
    (with_reducible refine ((SE 0 0 1 _).out.mono ?_))
    rintro e w4 ⟨rfl, hb⟩
    replace T := Lib.hid (T.out.on hb)
    clear hb
    clear p1 q1
    obtain ⟨_, p0, q0⟩ := T.out.get (w.heap.size, .int .i64 an, .int .i64 ad) (by simp)
    go_wp2_with fail
    (with_reducible refine ((CT _ (Lib.hid (pow_on hT.out T.out.below))).out.mono ?_))
    rintro e w5 ⟨rfl, hb⟩
    replace T := Lib.hid (T.out.on hb)
    clear hb
    clear p0 q0
    obtain ⟨_, p0, q0⟩ := T.out.get (w.heap.size, .int .i64 an, .int .i64 ad) (by simp)
    go_wp2_with fail
    (with_reducible refine ((CV _).out.mono ?_))
    rintro e w6 ⟨rfl, hb⟩
    replace T := Lib.hid (T.out.on hb)
    clear hb
    clear p0 q0
    cases hw : vB an ad
    · obtain ⟨c1, c2⟩ : ([] : List UInt8) = t ∧ (1 : Int) = e1 := by
        have q := HX.out
        unfold textT at q
        rw [hw, if_neg (by simp)] at q
        injection q with q1 q2; exact ⟨q1, q2⟩
      subst c1; subst c2
      clear HX hw
      go_wp2_with fail
      (with_reducible refine ((CP _ (Lib.hid (pow_on hT.out T.out.below)) (Lib.hid (hE.out.on T.out.below))).out.mono ?_))
      rintro e w7 ⟨rfl, hb⟩
      replace T := Lib.hid (T.out.on hb)
      clear hb
      cases hp : parP s.data.toList with
      | none =>
        have q1 := HP.out
        unfold parE at q1
        rw [hp] at q1
        obtain ⟨c1, c2, c3⟩ := three q1
        subst c1; subst c2; subst c3
        have RP := fun w => Lib.hid (refParse_any s (by omega) 0 0 false (by unfold parR; rw [hp]) w)
        clear q1 HP hp
        go_wp2_with fail
        replace T := Lib.hid (T.out.add (.int .i64 0) (.int .i64 0) 24)
        (with_reducible refine ((RP _).out.mono ?_))
        rintro e w8 ⟨rfl, hb⟩
        replace T := Lib.hid (T.out.on hb)
        clear hb
        obtain ⟨_, p2, q2⟩ := T.out.get (w7.heap.size, .int .i64 0, .int .i64 0) (by simp)
        go_wp2_with fail
        go_ret
        exact ⟨rfl, T.out.below.alloc T.out.below.size _⟩
      | some q =>
        obtain ⟨qn, qd⟩ := q
        have q1 := HP.out
        unfold parE at q1
        rw [hp] at q1
        obtain ⟨c1, c2, c3⟩ := three q1
        subst c1; subst c2; subst c3
        have RP := fun w => Lib.hid (refParse_any s (by omega) qn qd true (by unfold parR; rw [hp]) w)
        clear q1 HP hp
        go_wp2_with fail
        replace T := Lib.hid (T.out.add (.int .i64 qn) (.int .i64 qd) 24)
        (with_reducible refine ((RP _).out.mono ?_))
        rintro e w8 ⟨rfl, hb⟩
        replace T := Lib.hid (T.out.on hb)
        clear hb
        obtain ⟨_, p2, q2⟩ := T.out.get (w7.heap.size, .int .i64 qn, .int .i64 qd) (by simp)
        go_wp2_with fail
        go_ret
        exact ⟨rfl, T.out.below.alloc T.out.below.size _⟩
    · obtain ⟨c1, c2⟩ : txt an ad = t ∧ (0 : Int) = e1 := by
        have q := HX.out
        unfold textT at q
        rw [hw, if_pos rfl] at q
        injection q with q1 q2; exact ⟨q1, q2⟩
      subst c2
      have RT := fun w => Lib.hid (refText_any an ad w (vB_vld hw))
      rw [c1] at RT
      clear HX hw c1
      obtain ⟨_, p0, q0⟩ := T.out.get (w.heap.size, .int .i64 an, .int .i64 ad) (by simp)
      go_wp2_with fail
      (with_reducible refine ((RT _).out.mono ?_))
      rintro e w7 ⟨rfl, hb⟩
      replace T := Lib.hid (T.out.on hb)
      clear hb
      clear p0 q0
      go_wp2_with fail
      (with_reducible refine ((CP _ (Lib.hid (pow_on hT.out T.out.below)) (Lib.hid (hE.out.on T.out.below))).out.mono ?_))
      rintro e w8 ⟨rfl, hb⟩
      replace T := Lib.hid (T.out.on hb)
      clear hb
      cases hp : parP s.data.toList with
      | none =>
        have q1 := HP.out
        unfold parE at q1
        rw [hp] at q1
        obtain ⟨c1, c2, c3⟩ := three q1
        subst c1; subst c2; subst c3
        have RP := fun w => Lib.hid (refParse_any s (by omega) 0 0 false (by unfold parR; rw [hp]) w)
        clear q1 HP hp
        go_wp2_with fail
        replace T := Lib.hid (T.out.add (.int .i64 0) (.int .i64 0) 24)
        (with_reducible refine ((RP _).out.mono ?_))
        rintro e w9 ⟨rfl, hb⟩
        replace T := Lib.hid (T.out.on hb)
        clear hb
        obtain ⟨_, p2, q2⟩ := T.out.get (w8.heap.size, .int .i64 0, .int .i64 0) (by simp)
        go_wp2_with fail
        go_ret
        exact ⟨rfl, T.out.below.alloc T.out.below.size _⟩
      | some q =>
        obtain ⟨qn, qd⟩ := q
        have q1 := HP.out
        unfold parE at q1
        rw [hp] at q1
        obtain ⟨c1, c2, c3⟩ := three q1
        subst c1; subst c2; subst c3
        have RP := fun w => Lib.hid (refParse_any s (by omega) qn qd true (by unfold parR; rw [hp]) w)
        clear q1 HP hp
        go_wp2_with fail
        replace T := Lib.hid (T.out.add (.int .i64 qn) (.int .i64 qd) 24)
        (with_reducible refine ((RP _).out.mono ?_))
        rintro e w9 ⟨rfl, hb⟩
        replace T := Lib.hid (T.out.on hb)
        clear hb
        obtain ⟨_, p2, q2⟩ := T.out.get (w8.heap.size, .int .i64 qn, .int .i64 qd) (by simp)
        go_wp2_with fail
        go_ret
        exact ⟨rfl, T.out.below.alloc T.out.below.size _⟩
  · have CR := fun w h => Lib.hid (refSum_all l ao cp w hl h HV.out x y z HS.out)
    obtain ⟨_, p1, q1⟩ := T.out.get (w2.heap.size, .int .i64 x, .int .i64 y) (by simp)
    go_wp2_with fail
    (with_reducible refine ((CR _ (hQ.out.on T.out.below)).out.mono ?_))
    rintro e w4 ⟨rfl, hb⟩
    replace T := Lib.hid (T.out.on hb)
    clear hb
    clear p1 q1
    obtain ⟨_, p1, q1⟩ := T.out.get (w2.heap.size, .int .i64 x, .int .i64 y) (by simp)
    go_wp2_with fail
    replace T := Lib.hid (T.out.add (.int .i64 x) (.int .i64 y) 24)
    (with_reducible refine ((SE x y z _).out.mono ?_))
    rintro e w5 ⟨rfl, hb⟩
    replace T := Lib.hid (T.out.on hb)
    clear hb
    clear p1 q1
    obtain ⟨_, p0, q0⟩ := T.out.get (w.heap.size, .int .i64 an, .int .i64 ad) (by simp)
    go_wp2_with fail
    (with_reducible refine ((CT _ (Lib.hid (pow_on hT.out T.out.below))).out.mono ?_))
    rintro e w6 ⟨rfl, hb⟩
    replace T := Lib.hid (T.out.on hb)
    clear hb
    clear p0 q0
    obtain ⟨_, p0, q0⟩ := T.out.get (w.heap.size, .int .i64 an, .int .i64 ad) (by simp)
    go_wp2_with fail
    (with_reducible refine ((CV _).out.mono ?_))
    rintro e w7 ⟨rfl, hb⟩
    replace T := Lib.hid (T.out.on hb)
    clear hb
    clear p0 q0
    cases hw : vB an ad
    · obtain ⟨c1, c2⟩ : ([] : List UInt8) = t ∧ (1 : Int) = e1 := by
        have q := HX.out
        unfold textT at q
        rw [hw, if_neg (by simp)] at q
        injection q with q1 q2; exact ⟨q1, q2⟩
      subst c1; subst c2
      clear HX hw
      go_wp2_with fail
      (with_reducible refine ((CP _ (Lib.hid (pow_on hT.out T.out.below)) (Lib.hid (hE.out.on T.out.below))).out.mono ?_))
      rintro e w8 ⟨rfl, hb⟩
      replace T := Lib.hid (T.out.on hb)
      clear hb
      cases hp : parP s.data.toList with
      | none =>
        have q1 := HP.out
        unfold parE at q1
        rw [hp] at q1
        obtain ⟨c1, c2, c3⟩ := three q1
        subst c1; subst c2; subst c3
        have RP := fun w => Lib.hid (refParse_any s (by omega) 0 0 false (by unfold parR; rw [hp]) w)
        clear q1 HP hp
        go_wp2_with fail
        replace T := Lib.hid (T.out.add (.int .i64 0) (.int .i64 0) 24)
        (with_reducible refine ((RP _).out.mono ?_))
        rintro e w9 ⟨rfl, hb⟩
        replace T := Lib.hid (T.out.on hb)
        clear hb
        obtain ⟨_, p3, q3⟩ := T.out.get (w8.heap.size, .int .i64 0, .int .i64 0) (by simp)
        go_wp2_with fail
        go_ret
        exact ⟨rfl, T.out.below.alloc T.out.below.size _⟩
      | some q =>
        obtain ⟨qn, qd⟩ := q
        have q1 := HP.out
        unfold parE at q1
        rw [hp] at q1
        obtain ⟨c1, c2, c3⟩ := three q1
        subst c1; subst c2; subst c3
        have RP := fun w => Lib.hid (refParse_any s (by omega) qn qd true (by unfold parR; rw [hp]) w)
        clear q1 HP hp
        go_wp2_with fail
        replace T := Lib.hid (T.out.add (.int .i64 qn) (.int .i64 qd) 24)
        (with_reducible refine ((RP _).out.mono ?_))
        rintro e w9 ⟨rfl, hb⟩
        replace T := Lib.hid (T.out.on hb)
        clear hb
        obtain ⟨_, p3, q3⟩ := T.out.get (w8.heap.size, .int .i64 qn, .int .i64 qd) (by simp)
        go_wp2_with fail
        go_ret
        exact ⟨rfl, T.out.below.alloc T.out.below.size _⟩
    · obtain ⟨c1, c2⟩ : txt an ad = t ∧ (0 : Int) = e1 := by
        have q := HX.out
        unfold textT at q
        rw [hw, if_pos rfl] at q
        injection q with q1 q2; exact ⟨q1, q2⟩
      subst c2
      have RT := fun w => Lib.hid (refText_any an ad w (vB_vld hw))
      rw [c1] at RT
      clear HX hw c1
      obtain ⟨_, p0, q0⟩ := T.out.get (w.heap.size, .int .i64 an, .int .i64 ad) (by simp)
      go_wp2_with fail
      (with_reducible refine ((RT _).out.mono ?_))
      rintro e w8 ⟨rfl, hb⟩
      replace T := Lib.hid (T.out.on hb)
      clear hb
      clear p0 q0
      go_wp2_with fail
      (with_reducible refine ((CP _ (Lib.hid (pow_on hT.out T.out.below)) (Lib.hid (hE.out.on T.out.below))).out.mono ?_))
      rintro e w9 ⟨rfl, hb⟩
      replace T := Lib.hid (T.out.on hb)
      clear hb
      cases hp : parP s.data.toList with
      | none =>
        have q1 := HP.out
        unfold parE at q1
        rw [hp] at q1
        obtain ⟨c1, c2, c3⟩ := three q1
        subst c1; subst c2; subst c3
        have RP := fun w => Lib.hid (refParse_any s (by omega) 0 0 false (by unfold parR; rw [hp]) w)
        clear q1 HP hp
        go_wp2_with fail
        replace T := Lib.hid (T.out.add (.int .i64 0) (.int .i64 0) 24)
        (with_reducible refine ((RP _).out.mono ?_))
        rintro e w10 ⟨rfl, hb⟩
        replace T := Lib.hid (T.out.on hb)
        clear hb
        obtain ⟨_, p3, q3⟩ := T.out.get (w9.heap.size, .int .i64 0, .int .i64 0) (by simp)
        go_wp2_with fail
        go_ret
        exact ⟨rfl, T.out.below.alloc T.out.below.size _⟩
      | some q =>
        obtain ⟨qn, qd⟩ := q
        have q1 := HP.out
        unfold parE at q1
        rw [hp] at q1
        obtain ⟨c1, c2, c3⟩ := three q1
        subst c1; subst c2; subst c3
        have RP := fun w => Lib.hid (refParse_any s (by omega) qn qd true (by unfold parR; rw [hp]) w)
        clear q1 HP hp
        go_wp2_with fail
        replace T := Lib.hid (T.out.add (.int .i64 qn) (.int .i64 qd) 24)
        (with_reducible refine ((RP _).out.mono ?_))
        rintro e w10 ⟨rfl, hb⟩
        replace T := Lib.hid (T.out.on hb)
        clear hb
        obtain ⟨_, p3, q3⟩ := T.out.get (w9.heap.size, .int .i64 qn, .int .i64 qd) (by simp)
        go_wp2_with fail
        go_ret
        exact ⟨rfl, T.out.below.alloc T.out.below.size _⟩

set_option maxRecDepth 100000 in
set_option maxHeartbeats 16000000 in
theorem texts_walk (l : List (Int × Int)) (ao : Option Addr) (cp : Nat) (an ad : Int) (s : ByteArray) (w : World) (hT : Hid (Pow10 w.heap.size w)) (hE : Hid (EnvC w)) (a0 : -9223372036854775808 ≤ an) (a1 : an ≤ 9223372036854775807) (a2 : -9223372036854775808 ≤ ad) (a3 : ad ≤ 9223372036854775807) (hQ : Hid (LsR w ao l)) (hO : Hid (∀ x ∈ l, FrI x)) (hz : l.length ≤ 9223372036854775807) :
    Calls Tryd.prog 3 #[.slice ao l.length cp, .agg #[.int .i64 an, .int .i64 ad], .string s] w fun e w' => e = .returned (.bool true) ∧ Below w.heap.size w w' := by
  by_cases h1 : l.length ≤ 40
  · by_cases h3 : s.size ≤ 100
    · exact texts_le l ao cp an ad s w hT hE a0 a1 a2 a3 hQ hO h1 h3
    · exact texts_str40 l ao cp an ad s w hT hE a0 a1 a2 a3 hQ hO h1 (by omega)
  · by_cases h2 : l.length ≤ 1000
    · exact texts_mid l ao cp an ad s w hT hE a0 a1 a2 a3 hQ hO (by omega) h2
    · by_cases h4 : l.length ≤ 1005
      · by_cases h3 : s.size ≤ 100
        · exact texts_over l ao cp an ad s w hT hE a0 a1 a2 a3 hQ hO (by omega) h4 h3
        · exact texts_str5 l ao cp an ad s w hT hE a0 a1 a2 a3 hQ hO (by omega) h4 (by omega)
      · exact texts_far l ao cp an ad s w hT hE a0 a1 a2 a3 hQ hO (by omega)

end Go.Proofs.YtfcplndfoboaaaaDoor
