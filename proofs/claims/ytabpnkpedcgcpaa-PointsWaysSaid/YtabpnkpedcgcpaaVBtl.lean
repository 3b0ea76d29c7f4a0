/- Layer 9: law PointsBetween. -/
import Derived.Test.YtabpnkpedcgcpaaVLen
namespace Go.Proofs.Ytabpnkpedcgcpaa
open Go.ChangeShapes Go.WideShapes Go.ChangeAt Go.RowKit Go.Joins Go.Deep Go.Shelf
set_option linter.unusedVariables false

structure T3S (w W : World) (ba bb bc : Nat) (a b c : Pt) : Prop where
  st : Below w.heap.size w W
  A : B3 W ba a.x a.y a.z
  B : B3 W bb b.x b.y b.z
  C : B3 W bc c.x c.y c.z
theorem T3S.on {w W W2 : World} {ba bb bc : Nat} {a b c : Pt} (h : T3S w W ba bb bc a b c) (hb : Below W.heap.size W W2) : T3S w W2 ba bb bc a b c :=
  ⟨below_on h.st hb, h.A.on hb, h.B.on hb, h.C.on hb⟩
structure T4S (w W : World) (ba bb bc bx : Nat) (a b c x : Pt) : Prop where
  t : T3S w W ba bb bc a b c
  X : B3 W bx x.x x.y x.z
theorem T4S.on {w W W2 : World} {ba bb bc bx : Nat} {a b c x : Pt} (h : T4S w W ba bb bc bx a b c x) (hb : Below W.heap.size W W2) : T4S w W2 ba bb bc bx a b c x := ⟨h.t.on hb, h.X.on hb⟩
structure Vb14R (ba bb bx : Nat) (a b x : Pt) (num den : Int) (Wc : World) (L : Nat → Bool) (v : Nat → Value) (W : World) : Prop where
  st : Below Wc.heap.size Wc W
  w5 : Had L 5 (∀ j ∈ [1, 2, 3, 4], L j = true)
  w6 : Had L 6 (∀ j ∈ [0, 5], L j = true)
  w7 : Had L 7 (∀ j ∈ [6], L j = true)
  w8 : Had L 8 (∀ j ∈ [7], L j = true)
  w9 : Had L 9 (∀ j ∈ [7, 8], L j = true)
  w10 : Had L 10 (∀ j ∈ [7, 9], L j = true)
  w11 : Had L 11 (∀ j ∈ [10], L j = true)
  f0 : Had L 0 (v 100 = .agg #[.int .i64 x.x, .int .i64 x.y, .int .i64 x.z])
  f1 : Had L 1 (v 101 = .agg #[.int .i64 a.x, .int .i64 a.y, .int .i64 a.z])
  f2 : Had L 2 (v 102 = .agg #[.int .i64 b.x, .int .i64 b.y, .int .i64 b.z])
  f3 : Had L 3 (v 103 = .int .i64 num)
  f4 : Had L 4 (v 104 = .int .i64 den)
  f5 : Had L 5 (v 105 = .agg #[.int .i64 x.x, .int .i64 x.y, .int .i64 x.z])
  f6 : Had L 6 (v 106 = .bool true)
  f7 : Had L 7 (v 107 = .bool true)
  f8 : Had L 8 (v 108 = .int .i64 0)
  f9 : Had L 9 (v 109 = .bool true)
  f10 : Had L 10 (v 110 = .bool true)
  f11 : Had L 11 (v 10 = .bool true)
set_option maxRecDepth 100000 in
set_option maxHeartbeats 32000000 in
theorem between_walk (a b c : Pt) (num den : Int) (w : World) (_ : PI a) (_ : PI b) (_ : PI c) (n0 : -9223372036854775808 ≤ num) (n1 : num ≤ 9223372036854775807) (d0 : -9223372036854775808 ≤ den) (d1 : den ≤ 9223372036854775807) :
    Calls Try.prog 5 #[.agg #[.int .i64 a.x, .int .i64 a.y, .int .i64 a.z], .agg #[.int .i64 b.x, .int .i64 b.y, .int .i64 b.z], .agg #[.int .i64 c.x, .int .i64 c.y, .int .i64 c.z], .int .i64 num, .int .i64 den] w fun e w' => e = .returned (.bool true) ∧ Below w.heap.size w w' := by
  have CA := fun W => Lib.hid (pawake_any W)
  obtain ⟨x, xe, hx⟩ : ∃ r e, btT a b num den = (r, e) := ⟨_, _, rfl⟩
  have CB := fun W => Lib.hid (between_any a b num den W x xe hx n0 n1 d0 d1)
  obtain ⟨tn, te, ht⟩ : ∃ n e, tuT a b c = (n, e) := ⟨_, _, rfl⟩
  have CT := fun W => Lib.hid (pturn_any a b c W tn te ht)
  have CV1 := fun W => Lib.hid (rVal_any a W)
  have CV2 := fun W => Lib.hid (rVal_any b W)
  have CV3 := fun W => Lib.hid (rVal_any c W)
  obtain ⟨ta, hta⟩ : ∃ t, vdB a = t := ⟨_, rfl⟩
  obtain ⟨tb, htb⟩ : ∃ t, vdB b = t := ⟨_, rfl⟩
  obtain ⟨tc, htc⟩ : ∃ t, vdB c = t := ⟨_, rfl⟩
  rw [hta] at CV1
  rw [htb] at CV2
  rw [htc] at CV3
  have HTA : Hid (ta = true ↔ a.ok) := by show ta = true ↔ a.ok; rw [← hta]; unfold vdB; simp
  have HTB : Hid (tb = true ↔ b.ok) := by show tb = true ↔ b.ok; rw [← htb]; unfold vdB; simp
  have HTC : Hid (tc = true ↔ c.ok) := by show tc = true ↔ c.ok; rw [← htc]; unfold vdB; simp
  have HX := Lib.hid hx
  have HT := Lib.hid ht
  obtain ⟨w1, hw1⟩ : ∃ W, W = ((w.alloc (Obj.cells #[.int .i64 a.x, .int .i64 a.y, .int .i64 a.z] 41)).alloc (Obj.cells #[.int .i64 b.x, .int .i64 b.y, .int .i64 b.z] 41)).alloc (Obj.cells #[.int .i64 c.x, .int .i64 c.y, .int .i64 c.z] 41) := ⟨_, rfl⟩
  obtain ⟨hb1, hA, hB, hC⟩ := three_boxes w a b c _ _ _ w1 hw1
  obtain ⟨ba, hba⟩ : ∃ x, x = w.heap.size := ⟨_, rfl⟩
  obtain ⟨bb, hbb⟩ : ∃ x, x = w.heap.size + 1 := ⟨_, rfl⟩
  obtain ⟨bc, hbc⟩ : ∃ x, x = w.heap.size + 1 + 1 := ⟨_, rfl⟩
  have HN : Hid (ba = w.heap.size ∧ bb = w.heap.size + 1 ∧ bc = w.heap.size + 1 + 1 ∧ w1 = ((w.alloc (Obj.cells #[.int .i64 a.x, .int .i64 a.y, .int .i64 a.z] 41)).alloc (Obj.cells #[.int .i64 b.x, .int .i64 b.y, .int .i64 b.z] 41)).alloc (Obj.cells #[.int .i64 c.x, .int .i64 c.y, .int .i64 c.z] 41)) := ⟨hba, hbb, hbc, hw1⟩
  rw [← hba] at hA
  rw [← hbb] at hB
  rw [← hbc] at hC
  have HS1 : Hid (T3S w w1 ba bb bc a b c) := ⟨hb1, hA, hB, hC⟩
  clear hA hB hC hb1 hba hbb hbc hw1 hta htb htc hx ht n0 n1 d0 d1
  go_enter Try.func5, Try.ntmps5
  go_upto_region 1 with fail
  rw [← HN.out.2.2.2, ← HN.out.2.2.1, ← HN.out.2.1, ← HN.out.1]
  clear HN
  go_upto_region 3 with (go_at_call 19; (with_reducible refine ((CA _).out.mono ?_)); rintro e w2 ⟨rfl, hb2⟩; have HS2 := Lib.hid (HS1.out.on hb2); clear hb2 HS1 CA)
  have a0 := HS2.out.A.c0
  have a1 := HS2.out.A.c1
  have a2 := HS2.out.A.c2
  have b0 := HS2.out.B.c0
  have b1 := HS2.out.B.c1
  have b2 := HS2.out.B.c2
  have c0 := HS2.out.C.c0
  have c1 := HS2.out.C.c1
  have c2 := HS2.out.C.c2
  go_upto_region 4 with (go_at_call 27; (with_reducible refine ((CB _).out.mono ?_)); rintro e w3 ⟨rfl, hb3⟩; have HS3 := Lib.hid (HS2.out.on hb3); clear hb3 HS2 CB a0 a1 a2 b0 b1 b2 c0 c1 c2)
  have bl := below_alloc w3 (Obj.cells #[.int .i64 x.x, .int .i64 x.y, .int .i64 x.z] 41)
  have HS4 : Hid (T4S w (w3.alloc (Obj.cells #[.int .i64 x.x, .int .i64 x.y, .int .i64 x.z] 41)) ba bb bc w3.heap.size a b c x) := ⟨HS3.out.on bl, B3.new _ _ _ _ _⟩
  obtain ⟨w4, hw4⟩ : ∃ W, W = w3.alloc (Obj.cells #[.int .i64 x.x, .int .i64 x.y, .int .i64 x.z] 41) := ⟨_, rfl⟩
  obtain ⟨bx, hbx⟩ : ∃ x, x = w3.heap.size := ⟨_, rfl⟩
  rw [← hw4, ← hbx] at HS4
  rw [← hw4, ← hbx]
  clear hw4 hbx bl HS3
  have a0 := HS4.out.t.A.c0
  have a1 := HS4.out.t.A.c1
  have a2 := HS4.out.t.A.c2
  have b0 := HS4.out.t.B.c0
  have b1 := HS4.out.t.B.c1
  have b2 := HS4.out.t.B.c2
  have c0 := HS4.out.t.C.c0
  have c1 := HS4.out.t.C.c1
  have c2 := HS4.out.t.C.c2
  go_upto_region 5 with (go_at_call 28; (with_reducible refine ((CT _).out.mono ?_)); rintro e w5 ⟨rfl, hb5⟩; have HS5 := Lib.hid (HS4.out.on hb5); clear hb5 HS4 CT a0 a1 a2 b0 b1 b2 c0 c1 c2)
  have a0 := HS5.out.t.A.c0
  have a1 := HS5.out.t.A.c1
  have a2 := HS5.out.t.A.c2
  have b0 := HS5.out.t.B.c0
  have b1 := HS5.out.t.B.c1
  have b2 := HS5.out.t.B.c2
  have c0 := HS5.out.t.C.c0
  have c1 := HS5.out.t.C.c1
  have c2 := HS5.out.t.C.c2
  obtain ⟨nb, hnb⟩ : ∃ t : Bool, (!ta || (!tb || !tc)) = t := ⟨_, rfl⟩
  have HNB := Lib.hid hnb
  clear hnb
  go_cut [44] (fun s wx => s = .bool nb ∧ Hid (T4S w wx ba bb bc bx a b c x))
  case first =>
    cases ta with
    | false =>
      have hb : true = nb := HNB.out
      subst hb
      go_wp2_with (go_at_call 25; (with_reducible refine ((CV1 _).out.mono ?_)); rintro e w6 ⟨rfl, hb6⟩; have HS6 := Lib.hid (HS5.out.on hb6); clear hb6 HS5 a0 a1 a2 CV1; clear b0 b1 b2 c0 c1 c2)
      go_meet
      exact ⟨rfl, HS6⟩
    | true =>
      cases tb with
      | false =>
        have hb : true = nb := HNB.out
        subst hb
        go_wp2_with (first
          | (go_at_call 25; (with_reducible refine ((CV1 _).out.mono ?_)); rintro e w6 ⟨rfl, hb6⟩; have HS6 := Lib.hid (HS5.out.on hb6); clear hb6 HS5 a0 a1 a2 CV1; clear b0 b1 b2 c0 c1 c2; have b0 := HS6.out.t.B.c0; have b1 := HS6.out.t.B.c1; have b2 := HS6.out.t.B.c2)
          | (go_at_call 25; (with_reducible refine ((CV2 _).out.mono ?_)); rintro e w7 ⟨rfl, hb7⟩; have HS7 := Lib.hid (HS6.out.on hb7); clear hb7 HS6 b0 b1 b2 CV2))
        go_meet
        exact ⟨rfl, HS7⟩
      | true =>
        cases tc with
        | false =>
          have hb : true = nb := HNB.out
          subst hb
          go_wp2_with (first
            | (go_at_call 25; (with_reducible refine ((CV1 _).out.mono ?_)); rintro e w6 ⟨rfl, hb6⟩; have HS6 := Lib.hid (HS5.out.on hb6); clear hb6 HS5 a0 a1 a2 CV1; clear b0 b1 b2 c0 c1 c2; have b0 := HS6.out.t.B.c0; have b1 := HS6.out.t.B.c1; have b2 := HS6.out.t.B.c2)
            | (go_at_call 25; (with_reducible refine ((CV2 _).out.mono ?_)); rintro e w7 ⟨rfl, hb7⟩; have HS7 := Lib.hid (HS6.out.on hb7); clear hb7 HS6 b0 b1 b2 CV2; have c0 := HS7.out.t.C.c0; have c1 := HS7.out.t.C.c1; have c2 := HS7.out.t.C.c2)
            | (go_at_call 25; (with_reducible refine ((CV3 _).out.mono ?_)); rintro e w8 ⟨rfl, hb8⟩; have HS8 := Lib.hid (HS7.out.on hb8); clear hb8 HS7 c0 c1 c2 CV3))
          go_meet
          exact ⟨rfl, HS8⟩
        | true =>
          have hb : false = nb := HNB.out
          subst hb
          go_wp2_with (first
            | (go_at_call 25; (with_reducible refine ((CV1 _).out.mono ?_)); rintro e w6 ⟨rfl, hb6⟩; have HS6 := Lib.hid (HS5.out.on hb6); clear hb6 HS5 a0 a1 a2 CV1; clear b0 b1 b2 c0 c1 c2; have b0 := HS6.out.t.B.c0; have b1 := HS6.out.t.B.c1; have b2 := HS6.out.t.B.c2)
            | (go_at_call 25; (with_reducible refine ((CV2 _).out.mono ?_)); rintro e w7 ⟨rfl, hb7⟩; have HS7 := Lib.hid (HS6.out.on hb7); clear hb7 HS6 b0 b1 b2 CV2; have c0 := HS7.out.t.C.c0; have c1 := HS7.out.t.C.c1; have c2 := HS7.out.t.C.c2)
            | (go_at_call 25; (with_reducible refine ((CV3 _).out.mono ?_)); rintro e w8 ⟨rfl, hb8⟩; have HS8 := Lib.hid (HS7.out.on hb8); clear hb8 HS7 c0 c1 c2 CV3))
          go_meet
          exact ⟨rfl, HS8⟩
  case rest =>
  obtain ⟨rfl, HS9⟩ := hcut
  rename World => w9
  clear HS5 a0 a1 a2 b0 b1 b2 c0 c1 c2
  go_upto_if 44 with fail
  go_cut [] (fun wx => Hid (T4S w wx ba bb bc bx a b c x))
  case first =>
    cases nb with
    | false =>
      have tt : ta = true ∧ tb = true ∧ tc = true := by have := HNB.out; revert this; cases ta <;> cases tb <;> cases tc <;> simp
      have oka := HTA.out.1 tt.1
      have okb := HTB.out.1 tt.2.1
      have okc := HTC.out.1 tt.2.2
      have ht := HT.out
      unfold tuT at ht
      rw [if_pos ⟨oka, okb, okc⟩] at ht
      injection ht with h1 h2
      subst h2
      have CR := fun W => Lib.hid (rTurn_any a b c W oka okb okc)
      rw [h1] at CR
      clear tt oka okb okc h1 HT HNB HTA HTB HTC HX
      have a0 := HS9.out.t.A.c0
      have a1 := HS9.out.t.A.c1
      have a2 := HS9.out.t.A.c2
      have b0 := HS9.out.t.B.c0
      have b1 := HS9.out.t.B.c1
      have b2 := HS9.out.t.B.c2
      have c0 := HS9.out.t.C.c0
      have c1 := HS9.out.t.C.c1
      have c2 := HS9.out.t.C.c2
      go_wp2_with (go_at_call 29; (with_reducible refine ((CR _).out.mono ?_)); rintro e w10 ⟨rfl, hb10⟩; have HS10 := Lib.hid (HS9.out.on hb10); clear hb10 HS9 CR a0 a1 a2 b0 b1 b2 c0 c1 c2)
      go_meet
      exact HS10
    | true =>
      have nok : ¬ (a.ok ∧ b.ok ∧ c.ok) := fun h => by
        have := HNB.out
        rw [HTA.out.2 h.1, HTB.out.2 h.2.1, HTC.out.2 h.2.2] at this
        cases this
      have ht := HT.out
      unfold tuT at ht
      rw [if_neg nok] at ht
      injection ht with h1 h2
      subst h1; subst h2
      clear nok HT HNB HTA HTB HTC HX
      go_wp2_with fail
      go_meet
      exact HS9
  case rest =>
  rename World => w10
  have HS5 := hcut
  clear hcut HNB HT HTC HS9 CV3
  have a0 := HS5.out.t.A.c0
  have a1 := HS5.out.t.A.c1
  have a2 := HS5.out.t.A.c2
  cases ta with
  | false =>
    have nok : ¬ (a.ok ∧ b.ok) := fun h => by have := HTA.out.2 h.1; cases this
    have hx := HX.out
    unfold btT at hx
    rw [if_neg nok] at hx
    injection hx with h1 h2
    subst h1; subst h2
    clear nok HX HTA HTB CV2
    go_wp2_with (go_at_call 25; (with_reducible refine ((CV1 _).out.mono ?_)); rintro e w6 ⟨rfl, hb6⟩; have HS6 := Lib.hid (HS5.out.on hb6); clear hb6 HS5 a0 a1 a2 CV1; have x0 := HS6.out.X.c0; have x1 := HS6.out.X.c1; have x2 := HS6.out.X.c2)
    go_ret
    exact ⟨rfl, HS6.out.t.st⟩
  | true =>
    cases tb with
    | false =>
      have nok : ¬ (a.ok ∧ b.ok) := fun h => by have := HTB.out.2 h.2; cases this
      have hx := HX.out
      unfold btT at hx
      rw [if_neg nok] at hx
      injection hx with h1 h2
      subst h1; subst h2
      clear nok HX HTA HTB
      go_wp2_with (first
        | (go_at_call 25; (with_reducible refine ((CV1 _).out.mono ?_)); rintro e w6 ⟨rfl, hb6⟩; have HS6 := Lib.hid (HS5.out.on hb6); clear hb6 HS5 a0 a1 a2 CV1; have b0 := HS6.out.t.B.c0; have b1 := HS6.out.t.B.c1; have b2 := HS6.out.t.B.c2)
        | (go_at_call 25; (with_reducible refine ((CV2 _).out.mono ?_)); rintro e w7 ⟨rfl, hb7⟩; have HS7 := Lib.hid (HS6.out.on hb7); clear hb7 HS6 b0 b1 b2 CV2; have x0 := HS7.out.X.c0; have x1 := HS7.out.X.c1; have x2 := HS7.out.X.c2))
      go_ret
      exact ⟨rfl, HS7.out.t.st⟩
    | true =>
      have oka := HTA.out.1 rfl
      have okb := HTB.out.1 rfl
      have hx := HX.out
      unfold btT at hx
      rw [if_pos ⟨oka, okb⟩] at hx
      clear HX HTA HTB
      by_cases bad : den < 1 ∨ 1000 < den ∨ num < 0 ∨ den < num
      · rw [if_pos bad] at hx
        injection hx with h1 h2
        subst h1; subst h2
        have k1 : decide (den < 1) = true ∨ (decide (den < 1) = false ∧ (decide (1000 < den) = true ∨ (decide (1000 < den) = false ∧ (decide (num < 0) = true ∨ (decide (num < 0) = false ∧ decide (den < num) = true))))) := by
          by_cases z1 : den < 1
          · exact .inl (decide_eq_true z1)
          by_cases z2 : 1000 < den
          · exact .inr ⟨decide_eq_false z1, .inl (decide_eq_true z2)⟩
          by_cases z3 : num < 0
          · exact .inr ⟨decide_eq_false z1, .inr ⟨decide_eq_false z2, .inl (decide_eq_true z3)⟩⟩
          · exact .inr ⟨decide_eq_false z1, .inr ⟨decide_eq_false z2, .inr ⟨decide_eq_false z3, decide_eq_true (by omega)⟩⟩⟩
        clear bad oka okb
        rcases k1 with k1 | ⟨k1, k2 | ⟨k2, k3 | ⟨k3, k4⟩⟩⟩
        all_goals
          go_wp2_with (first
            | (go_at_call 25; (with_reducible refine ((CV1 _).out.mono ?_)); rintro e w6 ⟨rfl, hb6⟩; have HS6 := Lib.hid (HS5.out.on hb6); clear hb6 HS5 a0 a1 a2 CV1; have b0 := HS6.out.t.B.c0; have b1 := HS6.out.t.B.c1; have b2 := HS6.out.t.B.c2)
            | (go_at_call 25; (with_reducible refine ((CV2 _).out.mono ?_)); rintro e w7 ⟨rfl, hb7⟩; have HS7 := Lib.hid (HS6.out.on hb7); clear hb7 HS6 b0 b1 b2 CV2; have x0 := HS7.out.X.c0; have x1 := HS7.out.X.c1; have x2 := HS7.out.X.c2))
          go_ret
          exact ⟨rfl, HS7.out.t.st⟩
      · rw [if_neg bad] at hx
        injection hx with h1 h2
        subst h2
        have k1 : decide (den < 1) = false := decide_eq_false (by omega)
        have k2 : decide (1000 < den) = false := decide_eq_false (by omega)
        have k3 : decide (num < 0) = false := decide_eq_false (by omega)
        have k4 : decide (den < num) = false := decide_eq_false (by omega)
        have CR := fun W => Lib.hid (rBtw_any a b num den W oka okb (by omega) (by omega) (by omega) (by omega))
        rw [h1] at CR
        clear bad oka okb h1
        go_upto_region 14 with (first
          | (go_at_call 25; (with_reducible refine ((CV1 _).out.mono ?_)); rintro e w6 ⟨rfl, hb6⟩; have HS6 := Lib.hid (HS5.out.on hb6); clear hb6 HS5 a0 a1 a2 CV1; have b0 := HS6.out.t.B.c0; have b1 := HS6.out.t.B.c1; have b2 := HS6.out.t.B.c2)
          | (go_at_call 25; (with_reducible refine ((CV2 _).out.mono ?_)); rintro e w7 ⟨rfl, hb7⟩; have HS7 := Lib.hid (HS6.out.on hb7); clear hb7 HS6 b0 b1 b2 CV2))
        have LA0 := Lib.hid (And.intro HS7.out.t.A.c0 HS7.out.t.A.lt)
        have LA1 := Lib.hid (And.intro HS7.out.t.A.c1 HS7.out.t.A.lt)
        have LA2 := Lib.hid (And.intro HS7.out.t.A.c2 HS7.out.t.A.lt)
        have LB0 := Lib.hid (And.intro HS7.out.t.B.c0 HS7.out.t.B.lt)
        have LB1 := Lib.hid (And.intro HS7.out.t.B.c1 HS7.out.t.B.lt)
        have LB2 := Lib.hid (And.intro HS7.out.t.B.c2 HS7.out.t.B.lt)
        have LX0 := Lib.hid (And.intro HS7.out.X.c0 HS7.out.X.lt)
        have LX1 := Lib.hid (And.intro HS7.out.X.c1 HS7.out.X.lt)
        have LX2 := Lib.hid (And.intro HS7.out.X.c2 HS7.out.X.lt)
        refine wp_region_each (fun L A W => ∃ (v : Nat → Value), A = ⟨#[_, _, _, _, _, _, _, _, _, _, v 10, _, _, _, _, _, _, _, _, _, _, _, _, _, _, _, _, _, _, _, _, _, _, _, _, _, _, _, _, _, _, _, _, _, _, _, _, _, _, _, _, _, _, _, _, _, _, _, _, _, _, _, _, _, _, _, _, _, _, _, _, _, _, _, _, _, _, _, _, _, _, _, _, _, _, _, _, _, _, _, _, _, _, _, _, _, _, _, _, _, v 100, v 101, v 102, v 103, v 104, v 105, v 106, v 107, v 108, v 109, v 110], []⟩ ∧ Vb14R ba bb bx a b x num den w7 L v W) (by kernel_rfl) (by kernel_rfl) ⟨fun jz => if jz = 100 then u100 else if jz = 101 then u101 else if jz = 102 then u102 else if jz = 103 then u103 else if jz = 104 then u104 else if jz = 105 then u105 else if jz = 106 then u106 else if jz = 107 then u107 else if jz = 108 then u108 else if jz = 109 then u109 else if jz = 110 then u110 else if jz = 10 then u10 else undef, rfl, ⟨Below.drew (Below.refl _ _), Had.none, Had.none, Had.none, Had.none, Had.none, Had.none, Had.none, Had.none, Had.none, Had.none, Had.none, Had.none, Had.none, Had.none, Had.none, Had.none, Had.none, Had.none, Had.none⟩⟩ (rs := [0, 1, 2, 3, 4, 5, 6, 7, 8, 9, 10, 11]) (by kernel_rfl) ?_ ?_
        · refine EachOf.cons [] rfl (by kernel_rfl) ?_ ?_
          · rintro L A W ⟨v, rfl, hR⟩ hi hw K hK
            have q0 := (hR.st.cell (p := ⟨bx, 0, none⟩) LX0.out.2).trans LX0.out.1
            have q1 := (hR.st.cell (p := ⟨bx, 1, none⟩) LX1.out.2).trans LX1.out.1
            have q2 := (hR.st.cell (p := ⟨bx, 2, none⟩) LX2.out.2).trans LX2.out.1
            go_simp
            refine hK.out _ _ ?_
            exact ⟨(fun jz => if jz = 100 then .agg #[.int .i64 x.x, .int .i64 x.y, .int .i64 x.z] else v jz), rfl, ⟨hR.st, hR.w5.o, hR.w6.o, hR.w7.o, hR.w8.o, hR.w9.o, hR.w10.o, hR.w11.o, (fun _ => rfl), hR.f1.k, hR.f2.k, hR.f3.k, hR.f4.k, hR.f5.k, hR.f6.k, hR.f7.k, hR.f8.k, hR.f9.k, hR.f10.k, hR.f11.k⟩⟩
          refine EachOf.cons [] rfl (by kernel_rfl) ?_ ?_
          · rintro L A W ⟨v, rfl, hR⟩ hi hw K hK
            have q0 := (hR.st.cell (p := ⟨ba, 0, none⟩) LA0.out.2).trans LA0.out.1
            have q1 := (hR.st.cell (p := ⟨ba, 1, none⟩) LA1.out.2).trans LA1.out.1
            have q2 := (hR.st.cell (p := ⟨ba, 2, none⟩) LA2.out.2).trans LA2.out.1
            go_simp
            refine hK.out _ _ ?_
            exact ⟨(fun jz => if jz = 101 then .agg #[.int .i64 a.x, .int .i64 a.y, .int .i64 a.z] else v jz), rfl, ⟨hR.st, hR.w5.o, hR.w6.o, hR.w7.o, hR.w8.o, hR.w9.o, hR.w10.o, hR.w11.o, hR.f0.k, (fun _ => rfl), hR.f2.k, hR.f3.k, hR.f4.k, hR.f5.k, hR.f6.k, hR.f7.k, hR.f8.k, hR.f9.k, hR.f10.k, hR.f11.k⟩⟩
          refine EachOf.cons [] rfl (by kernel_rfl) ?_ ?_
          · rintro L A W ⟨v, rfl, hR⟩ hi hw K hK
            have q0 := (hR.st.cell (p := ⟨bb, 0, none⟩) LB0.out.2).trans LB0.out.1
            have q1 := (hR.st.cell (p := ⟨bb, 1, none⟩) LB1.out.2).trans LB1.out.1
            have q2 := (hR.st.cell (p := ⟨bb, 2, none⟩) LB2.out.2).trans LB2.out.1
            go_simp
            refine hK.out _ _ ?_
            exact ⟨(fun jz => if jz = 102 then .agg #[.int .i64 b.x, .int .i64 b.y, .int .i64 b.z] else v jz), rfl, ⟨hR.st, hR.w5.o, hR.w6.o, hR.w7.o, hR.w8.o, hR.w9.o, hR.w10.o, hR.w11.o, hR.f0.k, hR.f1.k, (fun _ => rfl), hR.f3.k, hR.f4.k, hR.f5.k, hR.f6.k, hR.f7.k, hR.f8.k, hR.f9.k, hR.f10.k, hR.f11.k⟩⟩
          refine EachOf.cons [] rfl (by kernel_rfl) ?_ ?_
          · rintro L A W ⟨v, rfl, hR⟩ hi hw K hK
            go_simp
            refine hK.out _ _ ?_
            exact ⟨(fun jz => if jz = 103 then .int .i64 num else v jz), rfl, ⟨hR.st, hR.w5.o, hR.w6.o, hR.w7.o, hR.w8.o, hR.w9.o, hR.w10.o, hR.w11.o, hR.f0.k, hR.f1.k, hR.f2.k, (fun _ => rfl), hR.f4.k, hR.f5.k, hR.f6.k, hR.f7.k, hR.f8.k, hR.f9.k, hR.f10.k, hR.f11.k⟩⟩
          refine EachOf.cons [] rfl (by kernel_rfl) ?_ ?_
          · rintro L A W ⟨v, rfl, hR⟩ hi hw K hK
            go_simp
            refine hK.out _ _ ?_
            exact ⟨(fun jz => if jz = 104 then .int .i64 den else v jz), rfl, ⟨hR.st, hR.w5.o, hR.w6.o, hR.w7.o, hR.w8.o, hR.w9.o, hR.w10.o, hR.w11.o, hR.f0.k, hR.f1.k, hR.f2.k, hR.f3.k, (fun _ => rfl), hR.f5.k, hR.f6.k, hR.f7.k, hR.f8.k, hR.f9.k, hR.f10.k, hR.f11.k⟩⟩
          refine EachOf.cons [1, 2, 3, 4] rfl (by kernel_rfl) ?_ ?_
          · rintro L A W ⟨v, rfl, hR⟩ hi hw K hK
            have e1 := hR.f1 (hw 1 (by simp))
            have e2 := hR.f2 (hw 2 (by simp))
            have e3 := hR.f3 (hw 3 (by simp))
            have e4 := hR.f4 (hw 4 (by simp))
            simp only [e1, e2, e3, e4]
            clear e1 e2 e3 e4
            go_simp
            go_at_call 30
            (with_reducible refine ((CR _).out).mono ?_)
            rintro e w2 ⟨rfl, hb⟩
            go_simp
            refine hK.out _ _ ?_
            exact ⟨(fun jz => if jz = 101 then .agg #[.int .i64 a.x, .int .i64 a.y, .int .i64 a.z] else if jz = 102 then .agg #[.int .i64 b.x, .int .i64 b.y, .int .i64 b.z] else if jz = 103 then .int .i64 num else if jz = 104 then .int .i64 den else if jz = 105 then .agg #[.int .i64 x.x, .int .i64 x.y, .int .i64 x.z] else v jz), rfl, ⟨below_on hR.st hb, (fun _ j hj => upd_on (hw j hj)), hR.w6.o, hR.w7.o, hR.w8.o, hR.w9.o, hR.w10.o, hR.w11.o, hR.f0.k, (fun _ => rfl), (fun _ => rfl), (fun _ => rfl), (fun _ => rfl), (fun _ => rfl), hR.f6.k, hR.f7.k, hR.f8.k, hR.f9.k, hR.f10.k, hR.f11.k⟩⟩
          refine EachOf.cons [0, 5] rfl (by kernel_rfl) ?_ ?_
          · rintro L A W ⟨v, rfl, hR⟩ hi hw K hK
            have e0 := hR.f0 (hw 0 (by simp))
            have e5 := hR.f5 (hw 5 (by simp))
            simp only [e0, e5]
            clear e0 e5
            go_simp
            refine hK.out _ _ ?_
            exact ⟨(fun jz => if jz = 100 then .agg #[.int .i64 x.x, .int .i64 x.y, .int .i64 x.z] else if jz = 105 then .agg #[.int .i64 x.x, .int .i64 x.y, .int .i64 x.z] else if jz = 106 then .bool true else v jz), rfl, ⟨hR.st, hR.w5.o, (fun _ j hj => upd_on (hw j hj)), hR.w7.o, hR.w8.o, hR.w9.o, hR.w10.o, hR.w11.o, (fun _ => rfl), hR.f1.k, hR.f2.k, hR.f3.k, hR.f4.k, (fun _ => rfl), (fun _ => rfl), hR.f7.k, hR.f8.k, hR.f9.k, hR.f10.k, hR.f11.k⟩⟩
          refine EachOf.cons [6] rfl (by kernel_rfl) ?_ ?_
          · rintro L A W ⟨v, rfl, hR⟩ hi hw K hK
            have e6 := hR.f6 (hw 6 (by simp))
            simp only [e6]
            clear e6
            go_simp
            refine hK.out _ _ ?_
            exact ⟨(fun jz => if jz = 106 then .bool true else if jz = 107 then .bool true else v jz), rfl, ⟨hR.st, hR.w5.o, hR.w6.o, (fun _ j hj => upd_on (hw j hj)), hR.w8.o, hR.w9.o, hR.w10.o, hR.w11.o, hR.f0.k, hR.f1.k, hR.f2.k, hR.f3.k, hR.f4.k, hR.f5.k, (fun _ => rfl), (fun _ => rfl), hR.f8.k, hR.f9.k, hR.f10.k, hR.f11.k⟩⟩
          refine EachOf.cons [7] rfl (by kernel_rfl) ?_ ?_
          · rintro L A W ⟨v, rfl, hR⟩ hi hw K hK
            have e7 := hR.f7 (hw 7 (by simp))
            simp only [e7]
            clear e7
            go_simp
            refine hK.out _ _ ?_
            exact ⟨(fun jz => if jz = 107 then .bool true else if jz = 108 then .int .i64 0 else v jz), rfl, ⟨hR.st, hR.w5.o, hR.w6.o, hR.w7.o, (fun _ j hj => upd_on (hw j hj)), hR.w9.o, hR.w10.o, hR.w11.o, hR.f0.k, hR.f1.k, hR.f2.k, hR.f3.k, hR.f4.k, hR.f5.k, hR.f6.k, (fun _ => rfl), (fun _ => rfl), hR.f9.k, hR.f10.k, hR.f11.k⟩⟩
          refine EachOf.cons [7, 8] rfl (by kernel_rfl) ?_ ?_
          · rintro L A W ⟨v, rfl, hR⟩ hi hw K hK
            have e8 := hR.f8 (hw 8 (by simp))
            have e7 := hR.f7 (hw 7 (by simp))
            simp only [e8, e7]
            clear e8 e7
            go_simp
            refine hK.out _ _ ?_
            exact ⟨(fun jz => if jz = 108 then .int .i64 0 else if jz = 107 then .bool true else if jz = 109 then .bool true else v jz), rfl, ⟨hR.st, hR.w5.o, hR.w6.o, hR.w7.o, hR.w8.o, (fun _ j hj => upd_on (hw j hj)), hR.w10.o, hR.w11.o, hR.f0.k, hR.f1.k, hR.f2.k, hR.f3.k, hR.f4.k, hR.f5.k, hR.f6.k, (fun _ => rfl), (fun _ => rfl), (fun _ => rfl), hR.f10.k, hR.f11.k⟩⟩
          refine EachOf.cons [7, 9] rfl (by kernel_rfl) ?_ ?_
          · rintro L A W ⟨v, rfl, hR⟩ hi hw K hK
            have e7 := hR.f7 (hw 7 (by simp))
            have e9 := hR.f9 (hw 9 (by simp))
            simp only [e7, e9]
            clear e7 e9
            go_simp
            refine hK.out _ _ ?_
            exact ⟨(fun jz => if jz = 107 then .bool true else if jz = 109 then .bool true else if jz = 110 then .bool true else v jz), rfl, ⟨hR.st, hR.w5.o, hR.w6.o, hR.w7.o, hR.w8.o, hR.w9.o, (fun _ j hj => upd_on (hw j hj)), hR.w11.o, hR.f0.k, hR.f1.k, hR.f2.k, hR.f3.k, hR.f4.k, hR.f5.k, hR.f6.k, (fun _ => rfl), hR.f8.k, (fun _ => rfl), (fun _ => rfl), hR.f11.k⟩⟩
          refine EachOf.cons [10] rfl (by kernel_rfl) ?_ ?_
          · rintro L A W ⟨v, rfl, hR⟩ hi hw K hK
            have e10 := hR.f10 (hw 10 (by simp))
            simp only [e10]
            clear e10
            go_simp
            refine hK.out _ _ ?_
            exact ⟨(fun jz => if jz = 110 then .bool true else if jz = 10 then .bool true else v jz), rfl, ⟨hR.st, hR.w5.o, hR.w6.o, hR.w7.o, hR.w8.o, hR.w9.o, hR.w10.o, (fun _ j hj => upd_on (hw j hj)), hR.f0.k, hR.f1.k, hR.f2.k, hR.f3.k, hR.f4.k, hR.f5.k, hR.f6.k, hR.f7.k, hR.f8.k, hR.f9.k, (fun _ => rfl), (fun _ => rfl)⟩⟩
          exact EachOf.nil
        rintro L A W12 ⟨vt, rfl, hR⟩ hL
        have e11 := hR.f11 (hL 11 (by simp))
        simp only [e11]
        have HE := Lib.hid (below_on HS7.out.t.st hR.st)
        clear hR hL e11 LA0 LA1 LA2 LB0 LB1 LB2 LX0 LX1 LX2 HS7
        go_wp2_with fail
        go_ret
        exact ⟨rfl, HE.out⟩
end Go.Proofs.Ytabpnkpedcgcpaa
