/- The walk of the law RatioRead. -/
import Derived.Test.YtfcplndfoboaaaaDoorRRev
namespace Go.Proofs.YtfcplndfoboaaaaDoor
set_option linter.unusedVariables false
open Go.RowKit Go.Shelf

theorem txt_short {n d : Int} (v : Vld n d) : (txt n d).length ≤ 100 := by
  have a := Lib.itoa_length_le n (by have := v.n1; omega) (by have := v.n2; omega)
  have b := Lib.itoa_length_le d (by have := v.d1; omega) (by have := v.d2; omega)
  unfold txt
  split
  · omega
  · simp; omega
theorem LsR.take {W : World} {ao : Option Addr} {l : List (Int × Int)} (h : LsR W ao l) (k : Nat) : LsR W ao (l.take k) := by
  rcases h with rfl | ⟨b, o, rfl, h1, h2⟩
  · exact .inl (by simp)
  · refine .inr ⟨b, o, rfl, h1, fun j hj => ?_⟩
    have hj2 : j < l.length := by rw [List.length_take] at hj; omega
    rw [List.getElem_take]
    exact h2 j hj2
theorem LsR.drop {W : World} {b o : Nat} {l : List (Int × Int)} (h1 : b < W.heap.size) (h2 : Frs W b o l) (k : Nat) : Frs W b (o + k * 2) (l.drop k) := fun j hj => by
  have hj2 : k + j < l.length := by rw [List.length_drop] at hj; omega
  rw [List.getElem_drop]
  have := h2 (k + j) hj2
  rw [show o + k * 2 + j * 2 = o + (k + j) * 2 by omega]
  exact this
theorem LsR.dropm {W : World} {ao : Option Addr} {l : List (Int × Int)} (h : LsR W ao l) (k : Nat) : LsR W (Option.map (fun x => x.add (k * 2)) ao) (l.drop k) := by
  rcases h with rfl | ⟨b, o, rfl, h1, h2⟩
  · exact .inl (by simp)
  · exact .inr ⟨b, o + k * 2, by rw [Option.map_some, Addr.add_lit], h1, LsR.drop h1 h2 k⟩
set_option maxRecDepth 100000 in
set_option maxHeartbeats 16000000 in
theorem read_str (an ad : Int) (s : ByteArray) (l : List (Int × Int)) (ao : Option Addr) (cp : Nat) (c : Int) (w : World) (hT : Hid (Pow10 w.heap.size w)) (hE : Hid (EnvC w)) (a0 : -9223372036854775808 ≤ an) (a1 : an ≤ 9223372036854775807) (a2 : -9223372036854775808 ≤ ad) (a3 : ad ≤ 9223372036854775807) (c0 : 0 ≤ c) (c1 : c ≤ 255) (hQ : Hid (LsR w ao l)) (hO : Hid (∀ x ∈ l, FrI x)) (hz : l.length ≤ cp) (hcp : cp ≤ 9223372036854775807) (h1 : 100 < s.size) :
    Calls Tryd.prog 4 #[.agg #[.int .i64 an, .int .i64 ad], .string s, .slice ao l.length cp, .int .u8 c] w fun e w' => e = .returned (.bool true) ∧ Below w.heap.size w w' := by
  go_enter Tryd.func4, Tryd.ntmps4
  go_wp2_with fail
  have T : Hid (Sto w (w.alloc (Obj.cells #[Value.int IntKind.i64 an, Value.int IntKind.i64 ad] 24)) [(w.heap.size, .int .i64 an, .int .i64 ad)]) := (Sto.start w).add _ _ _
  (with_reducible refine ((awake_any _ (Lib.hid (pow_on hT.out T.out.below))).mono ?_))
  rintro e w1 ⟨rfl, hb⟩
  replace T := Lib.hid (T.out.on hb)
  clear hb
  go_wp2_with fail
  go_ret
  exact ⟨rfl, T.out.below⟩

set_option maxRecDepth 100000 in
set_option maxHeartbeats 16000000 in
theorem read_long (an ad : Int) (s : ByteArray) (l : List (Int × Int)) (ao : Option Addr) (cp : Nat) (c : Int) (w : World) (hT : Hid (Pow10 w.heap.size w)) (hE : Hid (EnvC w)) (a0 : -9223372036854775808 ≤ an) (a1 : an ≤ 9223372036854775807) (a2 : -9223372036854775808 ≤ ad) (a3 : ad ≤ 9223372036854775807) (c0 : 0 ≤ c) (c1 : c ≤ 255) (hQ : Hid (LsR w ao l)) (hO : Hid (∀ x ∈ l, FrI x)) (hz : l.length ≤ cp) (hcp : cp ≤ 9223372036854775807) (h1 : s.size ≤ 100) (h2 : 40 < l.length) :
    Calls Tryd.prog 4 #[.agg #[.int .i64 an, .int .i64 ad], .string s, .slice ao l.length cp, .int .u8 c] w fun e w' => e = .returned (.bool true) ∧ Below w.heap.size w w' := by
  go_enter Tryd.func4, Tryd.ntmps4
  go_wp2_with fail
  have T : Hid (Sto w (w.alloc (Obj.cells #[Value.int IntKind.i64 an, Value.int IntKind.i64 ad] 24)) [(w.heap.size, .int .i64 an, .int .i64 ad)]) := (Sto.start w).add _ _ _
  (with_reducible refine ((awake_any _ (Lib.hid (pow_on hT.out T.out.below))).mono ?_))
  rintro e w1 ⟨rfl, hb⟩
  replace T := Lib.hid (T.out.on hb)
  clear hb
  go_wp2_with fail
  go_ret
  exact ⟨rfl, T.out.below⟩

set_option maxRecDepth 100000 in
set_option maxHeartbeats 16000000 in
theorem read_go (an ad : Int) (s : ByteArray) (l : List (Int × Int)) (ao : Option Addr) (cp : Nat) (c : Int) (w : World) (hT : Hid (Pow10 w.heap.size w)) (hE : Hid (EnvC w)) (a0 : -9223372036854775808 ≤ an) (a1 : an ≤ 9223372036854775807) (a2 : -9223372036854775808 ≤ ad) (a3 : ad ≤ 9223372036854775807) (c0 : 0 ≤ c) (c1 : c ≤ 255) (hQ : Hid (LsR w ao l)) (hO : Hid (∀ x ∈ l, FrI x)) (hz : l.length ≤ cp) (hcp : cp ≤ 9223372036854775807) (h1 : s.size ≤ 100) (h2 : l.length ≤ 40) :
    Calls Tryd.prog 4 #[.agg #[.int .i64 an, .int .i64 ad], .string s, .slice ao l.length cp, .int .u8 c] w fun e w' => e = .returned (.bool true) ∧ Below w.heap.size w w' := by
  have hl : l.length ≤ 2000 := by omega
  obtain ⟨x, y, z, hS⟩ : ∃ x y z, sumS l = (x, y, z) := ⟨_, _, _, rfl⟩
  obtain ⟨k, hk⟩ : ∃ k : Nat, c % ((l.length : Int) + 1) = (k : Int) := ⟨(c % ((l.length : Int) + 1)).toNat, by have := Int.emod_nonneg c (show (l.length : Int) + 1 ≠ 0 by omega); omega⟩
  have kl : k ≤ l.length := by have := Int.emod_lt_of_pos c (show 0 < (l.length : Int) + 1 by omega); omega
  obtain ⟨x1, y1, z1, hS1⟩ : ∃ x y z, sumS (l.take k) = (x, y, z) := ⟨_, _, _, rfl⟩
  obtain ⟨x2, y2, z2, hS2⟩ : ∃ x y z, sumS (l.drop k) = (x, y, z) := ⟨_, _, _, rfl⟩
  obtain ⟨x3, y3, z3, hS3⟩ : ∃ x y z, sumS l.reverse = (x, y, z) := ⟨_, _, _, rfl⟩
  have lk : (l.take k).length = k := by rw [List.length_take]; omega
  have CS1 := fun w (h : LsR w ao l) => Lib.hid (Sum_all (l.take k) ao cp w (by omega) (h.take k) (fun x hx => hO.out x (List.mem_of_mem_take hx)) x1 y1 z1 hS1)
  rw [lk] at CS1
  obtain ⟨n, d, e2, hP⟩ : ∃ n d e, parE s.data.toList = (n, d, e) := ⟨_, _, _, rfl⟩
  obtain ⟨t, e1, hX⟩ : ∃ t e, textT an ad = (t, e) := ⟨_, _, rfl⟩
  have CT := fun w h => Lib.hid (Text_any an ad w w.heap.size (Nat.le_refl _) h a0 a1 a2 a3 t e1 hX)
  have CV := fun w => Lib.hid (Valid_any an ad w a0 a1 a2 a3)
  have CSl := fun w h => Lib.hid (Sum_all l ao cp w hl h hO.out x y z hS)
  have CP := fun w h hE => Lib.hid (Parse_any s (by omega) w w.heap.size (Nat.le_refl _) h hE n d e2 hP)
  have HX := Lib.hid hX
  have HP := Lib.hid hP
  have HS := Lib.hid hS
  have HS1 := Lib.hid hS1
  have HS2 := Lib.hid hS2
  have HS3 := Lib.hid hS3
  clear hX hP hS hS1 hS2 hS3 lk
  go_enter Tryd.func4, Tryd.ntmps4
  go_wp2_with fail
  have T : Hid (Sto w (w.alloc (Obj.cells #[Value.int IntKind.i64 an, Value.int IntKind.i64 ad] 24)) [(w.heap.size, .int .i64 an, .int .i64 ad)]) := (Sto.start w).add _ _ _
  (with_reducible refine ((awake_any _ (Lib.hid (pow_on hT.out T.out.below))).mono ?_))
  rintro e w1 ⟨rfl, hb⟩
  replace T := Lib.hid (T.out.on hb)
  clear hb
  go_wp2_with fail
  (with_reducible refine ((CP _ (Lib.hid (pow_on hT.out T.out.below)) (Lib.hid (hE.out.on T.out.below))).out.mono ?_))
  rintro e w2 ⟨rfl, hb⟩
  replace T := Lib.hid (T.out.on hb)
  clear hb
  cases hp : parP s.data.toList with
  | none =>
    have q1 := HP.out
    unfold parE at q1
    rw [hp] at q1
    obtain ⟨c1, c2, c3⟩ := three q1
    subst c1; subst c2; subst c3
    clear q1 HP hp
    obtain ⟨_, p0, q0⟩ := T.out.get (w.heap.size, .int .i64 an, .int .i64 ad) (by simp)
    go_wp2_with fail
    replace T := Lib.hid (T.out.add (.int .i64 0) (.int .i64 0) 24)
    (with_reducible refine ((CT _ (Lib.hid (pow_on hT.out T.out.below))).out.mono ?_))
    rintro e w3 ⟨rfl, hb⟩
    replace T := Lib.hid (T.out.on hb)
    clear hb
    clear p0 q0
    cases hw : vB an ad
    · obtain ⟨c1, c2⟩ : ([] : List UInt8) = t ∧ (1 : Int) = e1 := by
        have q := HX.out
        unfold textT at q
        rw [hw, if_neg (by simp)] at q
        injection q with q1 q2; exact ⟨q1, q2⟩
      subst c1; subst c2
      rw [hw] at CV
      clear HX hw
      obtain ⟨_, p0, q0⟩ := T.out.get (w.heap.size, .int .i64 an, .int .i64 ad) (by simp)
      go_wp2_with fail
      (with_reducible refine ((CV _).out.mono ?_))
      rintro e w4 ⟨rfl, hb⟩
      replace T := Lib.hid (T.out.on hb)
      clear hb
      clear p0 q0
      go_wp2_with fail
      go_ret
      exact ⟨rfl, T.out.below⟩
    · obtain ⟨c1, c2⟩ : txt an ad = t ∧ (0 : Int) = e1 := by
        have q := HX.out
        unfold textT at q
        rw [hw, if_pos rfl] at q
        injection q with q1 q2; exact ⟨q1, q2⟩
      subst c2
      have va := vB_vld hw
      have ls : t.length ≤ 100 := by rw [← c1]; exact txt_short va
      have CR := fun w h hE => Lib.hid (Parse_any ⟨t.toArray⟩ (by show t.toArray.size ≤ 200; rw [List.size_toArray]; omega) w w.heap.size (Nat.le_refl _) h hE an ad 0 (by
        rw [show (⟨t.toArray⟩ : ByteArray).data.toList = t by simp, ← c1]
        unfold parE
        rw [parP_txt va]))
      clear HX hw c1 va
      go_wp2_with fail
      (with_reducible refine ((CR _ (Lib.hid (pow_on hT.out T.out.below)) (Lib.hid (hE.out.on T.out.below))).out.mono ?_))
      rintro e w4 ⟨rfl, hb⟩
      replace T := Lib.hid (T.out.on hb)
      clear hb
      obtain ⟨_, p0, q0⟩ := T.out.get (w.heap.size, .int .i64 an, .int .i64 ad) (by simp)
      go_wp2_with fail
      replace T := Lib.hid (T.out.add (.int .i64 an) (.int .i64 ad) 24)
      clear p0 q0
      (with_reducible refine ((CSl _ (hQ.out.on T.out.below)).out.mono ?_))
      rintro e w5 ⟨rfl, hb⟩
      replace T := Lib.hid (T.out.on hb)
      clear hb
      go_wp2_with fail
      replace T := Lib.hid (T.out.add (.int .i64 x) (.int .i64 y) 24)
      (with_reducible refine ((CS1 _ (hQ.out.on T.out.below)).out.mono ?_))
      rintro e w6 ⟨rfl, hb⟩
      replace T := Lib.hid (T.out.on hb)
      clear hb
      by_cases gz : z = 0
      · subst gz
        have happ : l.take k ++ l.drop k = l := List.take_append_drop k l
        obtain ⟨xx, yy, h1⟩ := sumS_first (by rw [happ]; exact HS.out)
        obtain ⟨e1, e2, e3⟩ := three ((HS1.out).symm.trans h1)
        subst e1; subst e2; subst e3
        clear h1
        by_cases hck : cp = k
        · subst hck
          have CS2 : ∀ w, LsR w ao l → Hid (Calls Tryd.prog 6 #[.slice ao 0 0] w fun r w' => r = .returned (.tuple #[.agg #[.int .i64 x2, .int .i64 y2], .int .i64 z2]) ∧ Below w.heap.size w w') := fun w _ => by
            have e : l.drop cp = [] := List.drop_eq_nil_of_le (by omega)
            have h2 := HS2.out
            rw [e] at h2
            exact Sum_all [] ao 0 w (by simp) (.inl rfl) (fun _ h => by cases h) x2 y2 z2 h2
          go_wp2_with fail
          replace T := Lib.hid (T.out.add (.int .i64 x1) (.int .i64 y1) 24)
          (with_reducible refine ((CS2 _ (hQ.out.on T.out.below)).out.mono ?_))
          rintro e w7 ⟨rfl, hb⟩
          replace T := Lib.hid (T.out.on hb)
          clear hb
          clear CS2
          by_cases gz2 : z2 = 0
          · subst gz2
            obtain ⟨v1, _⟩ := sumS_val HS1.out
            obtain ⟨v2, _⟩ := sumS_val HS2.out
            have u1 := v1.d1; have u2 := v1.d2; have u3 := v1.n1; have u4 := v1.n2
            have u5 := v2.d1; have u6 := v2.d2; have u7 := v2.n1; have u8 := v2.n2
            have CA := fun w => Lib.hid (Add_any x1 y1 x2 y2 w (by omega) (by omega) (by omega) (by omega) (by omega) (by omega) (by omega) (by omega) x y 0 (sumS_both (by rw [happ]; exact HS.out) HS1.out HS2.out))
            clear v1 v2 u1 u2 u3 u4 u5 u6 u7 u8
            obtain ⟨_, p4, q4⟩ := T.out.get (w6.heap.size, .int .i64 x1, .int .i64 y1) (by simp)
            go_wp2_with fail
            replace T := Lib.hid (T.out.add (.int .i64 x2) (.int .i64 y2) 24)
            (with_reducible refine ((CA _).out.mono ?_))
            rintro e w8 ⟨rfl, hb⟩
            replace T := Lib.hid (T.out.on hb)
            clear hb
            clear p4 q4
            go_wp2_with fail
            replace T := Lib.hid (T.out.add (.int .i64 x) (.int .i64 y) 24)
            (with_reducible refine ((Clone_all l ao cp _ hl (hQ.out.on T.out.below)).mono ?_))
            rintro e wa ⟨v, rfl, hM, hba⟩
            have HM := Lib.hid (And.intro hM hba)
            clear hM hba
            go_wp2_with fail
            (with_reducible refine ((Reverse_all l v _ _ hl HM.out.1).mono ?_))
            rintro e wb ⟨rfl, hM, hbb⟩
            replace T := Lib.hid (T.out.on (HM.out.2.trans hbb))
            replace HM := Lib.hid hM
            clear hM hbb
            go_wp2_with fail
            (with_reducible refine ((Sum_mine l.reverse v _ _ (by simp; omega) HM.out (fun x hx => hO.out x (by simpa using hx)) x3 y3 z3 HS3.out).mono ?_))
            rintro e wd ⟨rfl, hb⟩
            replace T := Lib.hid (T.out.on hb)
            clear hb HM
            rcases sumS_back HS.out HS3.out with ⟨e1, e2, e3⟩ | ⟨e1, e2, e3⟩
            · subst e1; subst e2; subst e3
              obtain ⟨_, p3, q3⟩ := T.out.get (w5.heap.size, .int .i64 x, .int .i64 y) (by simp)
              obtain ⟨_, p6, q6⟩ := T.out.get (w8.heap.size, .int .i64 x, .int .i64 y) (by simp)
              go_wp2_with fail
              go_ret
              exact ⟨rfl, T.out.below.alloc T.out.below.size _⟩
            · have e4 := e2.symm
              have e5 := e3.symm
              clear e2 e3
              subst e1; subst e4; subst e5
              obtain ⟨_, p3, q3⟩ := T.out.get (w5.heap.size, .int .i64 x, .int .i64 y) (by simp)
              obtain ⟨_, p6, q6⟩ := T.out.get (w8.heap.size, .int .i64 x, .int .i64 y) (by simp)
              go_wp2_with fail
              go_ret
              exact ⟨rfl, T.out.below.alloc T.out.below.size _⟩
          · have g3 : (z2 == 0) = false := by simpa using gz2
            have g4 : (z2 != 0) = true := by simpa using gz2
            go_wp2_with fail
            go_ret
            exact ⟨rfl, T.out.below.alloc T.out.below.size _⟩
        · have CS2 : ∀ w, LsR w ao l → Hid (Calls Tryd.prog 6 #[.slice (Option.map (fun x => x.add (k * 2)) ao) (l.length - k) (cp - k)] w fun r w' => r = .returned (.tuple #[.agg #[.int .i64 x2, .int .i64 y2], .int .i64 z2]) ∧ Below w.heap.size w w') := fun w h => by
            have hl2 : (l.drop k).length = l.length - k := List.length_drop
            have q := Sum_all (l.drop k) (Option.map (fun x => x.add (k * 2)) ao) (cp - k) w (by omega) (h.dropm k) (fun x hx => hO.out x (List.mem_of_mem_drop hx)) x2 y2 z2 HS2.out
            rw [hl2] at q
            exact q
          go_wp2_with fail
          replace T := Lib.hid (T.out.add (.int .i64 x1) (.int .i64 y1) 24)
          (with_reducible refine ((CS2 _ (hQ.out.on T.out.below)).out.mono ?_))
          rintro e w7 ⟨rfl, hb⟩
          replace T := Lib.hid (T.out.on hb)
          clear hb
          clear CS2
          by_cases gz2 : z2 = 0
          · subst gz2
            obtain ⟨v1, _⟩ := sumS_val HS1.out
            obtain ⟨v2, _⟩ := sumS_val HS2.out
            have u1 := v1.d1; have u2 := v1.d2; have u3 := v1.n1; have u4 := v1.n2
            have u5 := v2.d1; have u6 := v2.d2; have u7 := v2.n1; have u8 := v2.n2
            have CA := fun w => Lib.hid (Add_any x1 y1 x2 y2 w (by omega) (by omega) (by omega) (by omega) (by omega) (by omega) (by omega) (by omega) x y 0 (sumS_both (by rw [happ]; exact HS.out) HS1.out HS2.out))
            clear v1 v2 u1 u2 u3 u4 u5 u6 u7 u8
            obtain ⟨_, p4, q4⟩ := T.out.get (w6.heap.size, .int .i64 x1, .int .i64 y1) (by simp)
            go_wp2_with fail
            replace T := Lib.hid (T.out.add (.int .i64 x2) (.int .i64 y2) 24)
            (with_reducible refine ((CA _).out.mono ?_))
            rintro e w8 ⟨rfl, hb⟩
            replace T := Lib.hid (T.out.on hb)
            clear hb
            clear p4 q4
            go_wp2_with fail
            replace T := Lib.hid (T.out.add (.int .i64 x) (.int .i64 y) 24)
            (with_reducible refine ((Clone_all l ao cp _ hl (hQ.out.on T.out.below)).mono ?_))
            rintro e wa ⟨v, rfl, hM, hba⟩
            have HM := Lib.hid (And.intro hM hba)
            clear hM hba
            go_wp2_with fail
            (with_reducible refine ((Reverse_all l v _ _ hl HM.out.1).mono ?_))
            rintro e wb ⟨rfl, hM, hbb⟩
            replace T := Lib.hid (T.out.on (HM.out.2.trans hbb))
            replace HM := Lib.hid hM
            clear hM hbb
            go_wp2_with fail
            (with_reducible refine ((Sum_mine l.reverse v _ _ (by simp; omega) HM.out (fun x hx => hO.out x (by simpa using hx)) x3 y3 z3 HS3.out).mono ?_))
            rintro e wd ⟨rfl, hb⟩
            replace T := Lib.hid (T.out.on hb)
            clear hb HM
            rcases sumS_back HS.out HS3.out with ⟨e1, e2, e3⟩ | ⟨e1, e2, e3⟩
            · subst e1; subst e2; subst e3
              obtain ⟨_, p3, q3⟩ := T.out.get (w5.heap.size, .int .i64 x, .int .i64 y) (by simp)
              obtain ⟨_, p6, q6⟩ := T.out.get (w8.heap.size, .int .i64 x, .int .i64 y) (by simp)
              go_wp2_with fail
              go_ret
              exact ⟨rfl, T.out.below.alloc T.out.below.size _⟩
            · have e4 := e2.symm
              have e5 := e3.symm
              clear e2 e3
              subst e1; subst e4; subst e5
              obtain ⟨_, p3, q3⟩ := T.out.get (w5.heap.size, .int .i64 x, .int .i64 y) (by simp)
              obtain ⟨_, p6, q6⟩ := T.out.get (w8.heap.size, .int .i64 x, .int .i64 y) (by simp)
              go_wp2_with fail
              go_ret
              exact ⟨rfl, T.out.below.alloc T.out.below.size _⟩
          · have g3 : (z2 == 0) = false := by simpa using gz2
            have g4 : (z2 != 0) = true := by simpa using gz2
            go_wp2_with fail
            go_ret
            exact ⟨rfl, T.out.below.alloc T.out.below.size _⟩
      · obtain ⟨e1, e2⟩ := sumS_zero HS.out gz
        subst e1; subst e2
        have g1 : (z == 0) = false := by simpa using gz
        have g2 : (z != 0) = true := by simpa using gz
        obtain ⟨_, p3, q3⟩ := T.out.get (w5.heap.size, .int .i64 0, .int .i64 0) (by simp)
        go_wp2_with fail
        go_ret
        exact ⟨rfl, T.out.below.alloc T.out.below.size _⟩
  | some q =>
    obtain ⟨qn, qd⟩ := q
    have q1 := HP.out
    unfold parE at q1
    rw [hp] at q1
    obtain ⟨c1, c2, c3⟩ := three q1
    subst c1; subst c2; subst c3
    obtain ⟨vq, eq⟩ := parP_some hp
    have b1 := vq.d1; have b2 := vq.d2; have b3 := vq.n1; have b4 := vq.n2
    have CTq := fun w h => Lib.hid (Text_any qn qd w w.heap.size (Nat.le_refl _) h (by omega) (by omega) (by omega) (by omega) s.data.toList 0 (by unfold textT; rw [vB_yes vq, if_pos rfl, eq]))
    have CVq := fun w => Lib.hid (Valid_any qn qd w (by omega) (by omega) (by omega) (by omega))
    rw [vB_yes vq] at CVq
    rw [show (⟨s.data.toList.toArray⟩ : ByteArray) = s by apply Go.WideShapes.bytes_inj; simp] at CTq
    clear q1 HP hp vq eq b1 b2 b3 b4
    go_wp2_with fail
    replace T := Lib.hid (T.out.add (.int .i64 qn) (.int .i64 qd) 24)
    (with_reducible refine ((CTq _ (Lib.hid (pow_on hT.out T.out.below))).out.mono ?_))
    rintro e w3 ⟨rfl, hb⟩
    replace T := Lib.hid (T.out.on hb)
    clear hb
    obtain ⟨_, p1, q1⟩ := T.out.get (w2.heap.size, .int .i64 qn, .int .i64 qd) (by simp)
    go_wp2_with fail
    (with_reducible refine ((CVq _).out.mono ?_))
    rintro e w4 ⟨rfl, hb⟩
    replace T := Lib.hid (T.out.on hb)
    clear hb
    clear p1 q1
    obtain ⟨_, p0, q0⟩ := T.out.get (w.heap.size, .int .i64 an, .int .i64 ad) (by simp)
    go_wp2_with fail
    (with_reducible refine ((CT _ (Lib.hid (pow_on hT.out T.out.below))).out.mono ?_))
    rintro e w5 ⟨rfl, hb⟩
    replace T := Lib.hid (T.out.on hb)
    clear hb
    clear p0 q0
    cases hw : vB an ad
    · obtain ⟨c1, c2⟩ : ([] : List UInt8) = t ∧ (1 : Int) = e1 := by
        have q := HX.out
        unfold textT at q
        rw [hw, if_neg (by simp)] at q
        injection q with q1 q2; exact ⟨q1, q2⟩
      subst c1; subst c2
      rw [hw] at CV
      clear HX hw
      obtain ⟨_, p0, q0⟩ := T.out.get (w.heap.size, .int .i64 an, .int .i64 ad) (by simp)
      go_wp2_with fail
      (with_reducible refine ((CV _).out.mono ?_))
      rintro e w6 ⟨rfl, hb⟩
      replace T := Lib.hid (T.out.on hb)
      clear hb
      clear p0 q0
      go_wp2_with fail
      go_ret
      exact ⟨rfl, T.out.below⟩
    · obtain ⟨c1, c2⟩ : txt an ad = t ∧ (0 : Int) = e1 := by
        have q := HX.out
        unfold textT at q
        rw [hw, if_pos rfl] at q
        injection q with q1 q2; exact ⟨q1, q2⟩
      subst c2
      have va := vB_vld hw
      have ls : t.length ≤ 100 := by rw [← c1]; exact txt_short va
      have CR := fun w h hE => Lib.hid (Parse_any ⟨t.toArray⟩ (by show t.toArray.size ≤ 200; rw [List.size_toArray]; omega) w w.heap.size (Nat.le_refl _) h hE an ad 0 (by
        rw [show (⟨t.toArray⟩ : ByteArray).data.toList = t by simp, ← c1]
        unfold parE
        rw [parP_txt va]))
      clear HX hw c1 va
      go_wp2_with fail
      (with_reducible refine ((CR _ (Lib.hid (pow_on hT.out T.out.below)) (Lib.hid (hE.out.on T.out.below))).out.mono ?_))
      rintro e w6 ⟨rfl, hb⟩
      replace T := Lib.hid (T.out.on hb)
      clear hb
      obtain ⟨_, p0, q0⟩ := T.out.get (w.heap.size, .int .i64 an, .int .i64 ad) (by simp)
      go_wp2_with fail
      replace T := Lib.hid (T.out.add (.int .i64 an) (.int .i64 ad) 24)
      clear p0 q0
      (with_reducible refine ((CSl _ (hQ.out.on T.out.below)).out.mono ?_))
      rintro e w7 ⟨rfl, hb⟩
      replace T := Lib.hid (T.out.on hb)
      clear hb
      go_wp2_with fail
      replace T := Lib.hid (T.out.add (.int .i64 x) (.int .i64 y) 24)
      (with_reducible refine ((CS1 _ (hQ.out.on T.out.below)).out.mono ?_))
      rintro e w8 ⟨rfl, hb⟩
      replace T := Lib.hid (T.out.on hb)
      clear hb
      by_cases gz : z = 0
      · subst gz
        have happ : l.take k ++ l.drop k = l := List.take_append_drop k l
        obtain ⟨xx, yy, h1⟩ := sumS_first (by rw [happ]; exact HS.out)
        obtain ⟨e1, e2, e3⟩ := three ((HS1.out).symm.trans h1)
        subst e1; subst e2; subst e3
        clear h1
        by_cases hck : cp = k
        · subst hck
          have CS2 : ∀ w, LsR w ao l → Hid (Calls Tryd.prog 6 #[.slice ao 0 0] w fun r w' => r = .returned (.tuple #[.agg #[.int .i64 x2, .int .i64 y2], .int .i64 z2]) ∧ Below w.heap.size w w') := fun w _ => by
            have e : l.drop cp = [] := List.drop_eq_nil_of_le (by omega)
            have h2 := HS2.out
            rw [e] at h2
            exact Sum_all [] ao 0 w (by simp) (.inl rfl) (fun _ h => by cases h) x2 y2 z2 h2
          go_wp2_with fail
          replace T := Lib.hid (T.out.add (.int .i64 x1) (.int .i64 y1) 24)
          (with_reducible refine ((CS2 _ (hQ.out.on T.out.below)).out.mono ?_))
          rintro e w9 ⟨rfl, hb⟩
          replace T := Lib.hid (T.out.on hb)
          clear hb
          clear CS2
          by_cases gz2 : z2 = 0
          · subst gz2
            obtain ⟨v1, _⟩ := sumS_val HS1.out
            obtain ⟨v2, _⟩ := sumS_val HS2.out
            have u1 := v1.d1; have u2 := v1.d2; have u3 := v1.n1; have u4 := v1.n2
            have u5 := v2.d1; have u6 := v2.d2; have u7 := v2.n1; have u8 := v2.n2
            have CA := fun w => Lib.hid (Add_any x1 y1 x2 y2 w (by omega) (by omega) (by omega) (by omega) (by omega) (by omega) (by omega) (by omega) x y 0 (sumS_both (by rw [happ]; exact HS.out) HS1.out HS2.out))
            clear v1 v2 u1 u2 u3 u4 u5 u6 u7 u8
            obtain ⟨_, p4, q4⟩ := T.out.get (w8.heap.size, .int .i64 x1, .int .i64 y1) (by simp)
            go_wp2_with fail
            replace T := Lib.hid (T.out.add (.int .i64 x2) (.int .i64 y2) 24)
            (with_reducible refine ((CA _).out.mono ?_))
            rintro e w10 ⟨rfl, hb⟩
            replace T := Lib.hid (T.out.on hb)
            clear hb
            clear p4 q4
            go_wp2_with fail
            replace T := Lib.hid (T.out.add (.int .i64 x) (.int .i64 y) 24)
            (with_reducible refine ((Clone_all l ao cp _ hl (hQ.out.on T.out.below)).mono ?_))
            rintro e wa ⟨v, rfl, hM, hba⟩
            have HM := Lib.hid (And.intro hM hba)
            clear hM hba
            go_wp2_with fail
            (with_reducible refine ((Reverse_all l v _ _ hl HM.out.1).mono ?_))
            rintro e wb ⟨rfl, hM, hbb⟩
            replace T := Lib.hid (T.out.on (HM.out.2.trans hbb))
            replace HM := Lib.hid hM
            clear hM hbb
            go_wp2_with fail
            (with_reducible refine ((Sum_mine l.reverse v _ _ (by simp; omega) HM.out (fun x hx => hO.out x (by simpa using hx)) x3 y3 z3 HS3.out).mono ?_))
            rintro e wd ⟨rfl, hb⟩
            replace T := Lib.hid (T.out.on hb)
            clear hb HM
            rcases sumS_back HS.out HS3.out with ⟨e1, e2, e3⟩ | ⟨e1, e2, e3⟩
            · subst e1; subst e2; subst e3
              obtain ⟨_, p3, q3⟩ := T.out.get (w7.heap.size, .int .i64 x, .int .i64 y) (by simp)
              obtain ⟨_, p6, q6⟩ := T.out.get (w10.heap.size, .int .i64 x, .int .i64 y) (by simp)
              go_wp2_with fail
              go_ret
              exact ⟨rfl, T.out.below.alloc T.out.below.size _⟩
            · have e4 := e2.symm
              have e5 := e3.symm
              clear e2 e3
              subst e1; subst e4; subst e5
              obtain ⟨_, p3, q3⟩ := T.out.get (w7.heap.size, .int .i64 x, .int .i64 y) (by simp)
              obtain ⟨_, p6, q6⟩ := T.out.get (w10.heap.size, .int .i64 x, .int .i64 y) (by simp)
              go_wp2_with fail
              go_ret
              exact ⟨rfl, T.out.below.alloc T.out.below.size _⟩
          · have g3 : (z2 == 0) = false := by simpa using gz2
            have g4 : (z2 != 0) = true := by simpa using gz2
            go_wp2_with fail
            go_ret
            exact ⟨rfl, T.out.below.alloc T.out.below.size _⟩
        · have CS2 : ∀ w, LsR w ao l → Hid (Calls Tryd.prog 6 #[.slice (Option.map (fun x => x.add (k * 2)) ao) (l.length - k) (cp - k)] w fun r w' => r = .returned (.tuple #[.agg #[.int .i64 x2, .int .i64 y2], .int .i64 z2]) ∧ Below w.heap.size w w') := fun w h => by
            have hl2 : (l.drop k).length = l.length - k := List.length_drop
            have q := Sum_all (l.drop k) (Option.map (fun x => x.add (k * 2)) ao) (cp - k) w (by omega) (h.dropm k) (fun x hx => hO.out x (List.mem_of_mem_drop hx)) x2 y2 z2 HS2.out
            rw [hl2] at q
            exact q
          go_wp2_with fail
          replace T := Lib.hid (T.out.add (.int .i64 x1) (.int .i64 y1) 24)
          (with_reducible refine ((CS2 _ (hQ.out.on T.out.below)).out.mono ?_))
          rintro e w9 ⟨rfl, hb⟩
          replace T := Lib.hid (T.out.on hb)
          clear hb
          clear CS2
          by_cases gz2 : z2 = 0
          · subst gz2
            obtain ⟨v1, _⟩ := sumS_val HS1.out
            obtain ⟨v2, _⟩ := sumS_val HS2.out
            have u1 := v1.d1; have u2 := v1.d2; have u3 := v1.n1; have u4 := v1.n2
            have u5 := v2.d1; have u6 := v2.d2; have u7 := v2.n1; have u8 := v2.n2
            have CA := fun w => Lib.hid (Add_any x1 y1 x2 y2 w (by omega) (by omega) (by omega) (by omega) (by omega) (by omega) (by omega) (by omega) x y 0 (sumS_both (by rw [happ]; exact HS.out) HS1.out HS2.out))
            clear v1 v2 u1 u2 u3 u4 u5 u6 u7 u8
            obtain ⟨_, p4, q4⟩ := T.out.get (w8.heap.size, .int .i64 x1, .int .i64 y1) (by simp)
            go_wp2_with fail
            replace T := Lib.hid (T.out.add (.int .i64 x2) (.int .i64 y2) 24)
            (with_reducible refine ((CA _).out.mono ?_))
            rintro e w10 ⟨rfl, hb⟩
            replace T := Lib.hid (T.out.on hb)
            clear hb
            clear p4 q4
            go_wp2_with fail
            replace T := Lib.hid (T.out.add (.int .i64 x) (.int .i64 y) 24)
            (with_reducible refine ((Clone_all l ao cp _ hl (hQ.out.on T.out.below)).mono ?_))
            rintro e wa ⟨v, rfl, hM, hba⟩
            have HM := Lib.hid (And.intro hM hba)
            clear hM hba
            go_wp2_with fail
            (with_reducible refine ((Reverse_all l v _ _ hl HM.out.1).mono ?_))
            rintro e wb ⟨rfl, hM, hbb⟩
            replace T := Lib.hid (T.out.on (HM.out.2.trans hbb))
            replace HM := Lib.hid hM
            clear hM hbb
            go_wp2_with fail
            (with_reducible refine ((Sum_mine l.reverse v _ _ (by simp; omega) HM.out (fun x hx => hO.out x (by simpa using hx)) x3 y3 z3 HS3.out).mono ?_))
            rintro e wd ⟨rfl, hb⟩
            replace T := Lib.hid (T.out.on hb)
            clear hb HM
            rcases sumS_back HS.out HS3.out with ⟨e1, e2, e3⟩ | ⟨e1, e2, e3⟩
            · subst e1; subst e2; subst e3
              obtain ⟨_, p3, q3⟩ := T.out.get (w7.heap.size, .int .i64 x, .int .i64 y) (by simp)
              obtain ⟨_, p6, q6⟩ := T.out.get (w10.heap.size, .int .i64 x, .int .i64 y) (by simp)
              go_wp2_with fail
              go_ret
              exact ⟨rfl, T.out.below.alloc T.out.below.size _⟩
            · have e4 := e2.symm
              have e5 := e3.symm
              clear e2 e3
              subst e1; subst e4; subst e5
              obtain ⟨_, p3, q3⟩ := T.out.get (w7.heap.size, .int .i64 x, .int .i64 y) (by simp)
              obtain ⟨_, p6, q6⟩ := T.out.get (w10.heap.size, .int .i64 x, .int .i64 y) (by simp)
              go_wp2_with fail
              go_ret
              exact ⟨rfl, T.out.below.alloc T.out.below.size _⟩
          · have g3 : (z2 == 0) = false := by simpa using gz2
            have g4 : (z2 != 0) = true := by simpa using gz2
            go_wp2_with fail
            go_ret
            exact ⟨rfl, T.out.below.alloc T.out.below.size _⟩
      · obtain ⟨e1, e2⟩ := sumS_zero HS.out gz
        subst e1; subst e2
        have g1 : (z == 0) = false := by simpa using gz
        have g2 : (z != 0) = true := by simpa using gz
        obtain ⟨_, p3, q3⟩ := T.out.get (w7.heap.size, .int .i64 0, .int .i64 0) (by simp)
        go_wp2_with fail
        go_ret
        exact ⟨rfl, T.out.below.alloc T.out.below.size _⟩

set_option maxRecDepth 100000 in
set_option maxHeartbeats 16000000 in
theorem read_walk (an ad : Int) (s : ByteArray) (l : List (Int × Int)) (ao : Option Addr) (cp : Nat) (c : Int) (w : World) (hT : Hid (Pow10 w.heap.size w)) (hE : Hid (EnvC w)) (a0 : -9223372036854775808 ≤ an) (a1 : an ≤ 9223372036854775807) (a2 : -9223372036854775808 ≤ ad) (a3 : ad ≤ 9223372036854775807) (c0 : 0 ≤ c) (c1 : c ≤ 255) (hQ : Hid (LsR w ao l)) (hO : Hid (∀ x ∈ l, FrI x)) (hz : l.length ≤ cp) (hcp : cp ≤ 9223372036854775807)  :
    Calls Tryd.prog 4 #[.agg #[.int .i64 an, .int .i64 ad], .string s, .slice ao l.length cp, .int .u8 c] w fun e w' => e = .returned (.bool true) ∧ Below w.heap.size w w' := by
  by_cases h1 : s.size ≤ 100
  · by_cases h2 : l.length ≤ 40
    · exact read_go an ad s l ao cp c w hT hE a0 a1 a2 a3 c0 c1 hQ hO hz hcp h1 h2
    · exact read_long an ad s l ao cp c w hT hE a0 a1 a2 a3 c0 c1 hQ hO hz hcp h1 (by omega)
  · exact read_str an ad s l ao cp c w hT hE a0 a1 a2 a3 c0 c1 hQ hO hz hcp (by omega)

end Go.Proofs.YtfcplndfoboaaaaDoor
