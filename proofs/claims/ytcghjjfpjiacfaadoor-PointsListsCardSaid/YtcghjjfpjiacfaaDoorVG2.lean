/- Layer 9: Inside. -/
import Derived.Test.YtcghjjfpjiacfaaDoorVG1
import Derived.Test.YtcghjjfpjiacfaaDoorVF5
namespace Go.Proofs.YtcghjjfpjiacfaaDoor
open Go.ChangeShapes Go.WideShapes Go.ChangeAt Go.RowKit Go.Joins Go.Deep Go.Shelf
set_option linter.unusedVariables false

theorem tri3_any (p a b d : Pt) (w : World) (hp : PR w) (hok : p.ok) (ha : a.ok) (hb : b.ok) (hd : d.ok) : Calls Tryd.prog 49 #[.agg #[.int .i64 p.x, .int .i64 p.y, .int .i64 p.z], .agg #[.int .i64 a.x, .int .i64 a.y, .int .i64 a.z, .int .i64 b.x, .int .i64 b.y, .int .i64 b.z, .int .i64 d.x, .int .i64 d.y, .int .i64 d.z]] w fun e w' => e = .returned (.bool (decide (inT p a b d))) ∧ Below w.heap.size w w' :=
  tri_any p (fun k => if k = 0 then a else if k = 1 then b else d) w hp hok (fun k hk => by
    have : k = 0 ∨ k = 1 ∨ k = 2 := by omega
    rcases this with rfl | rfl | rfl
    · exact ha
    · exact hb
    · exact hd)
structure InS (w W : World) (b2 sg o n : Nat) (p : Pt) (f : Nat → Pt) : Prop where
  st : Below w.heap.size w W
  P : B3 W b2 p.x p.y p.z
  hg : sg < W.heap.size
  p : PR W
  c : ∀ i, i < n → W.cell? ⟨sg, o + i * 3, none⟩ = some (.int .i64 (f i).x) ∧ W.cell? ⟨sg, o + i * 3 + 1, none⟩ = some (.int .i64 (f i).y) ∧ W.cell? ⟨sg, o + i * 3 + 2, none⟩ = some (.int .i64 (f i).z)
theorem InS.on {w W W2 : World} {b2 sg o n : Nat} {p : Pt} {f : Nat → Pt} (h : InS w W b2 sg o n p f) (hb : Below W.heap.size W W2) : InS w W2 b2 sg o n p f :=
  ⟨below_on h.st hb, h.P.on hb, Nat.lt_of_lt_of_le h.hg hb.size, h.p.on hb, fun i hi => ⟨(hb.cell (p := ⟨sg, o + i * 3, none⟩) h.hg).trans (h.c i hi).1, (hb.cell (p := ⟨sg, o + i * 3 + 1, none⟩) h.hg).trans (h.c i hi).2.1, (hb.cell (p := ⟨sg, o + i * 3 + 2, none⟩) h.hg).trans (h.c i hi).2.2⟩⟩
/-- What Inside returns. -/
def InO (p : Pt) (n : Nat) (f : Nat → Pt) (v : Bool) (e : Int) : Prop := ((¬ p.ok ∨ ¬ allV n f) ∧ v = false ∧ e = 1) ∨ (p.ok ∧ allV n f ∧ 20 < n ∧ v = false ∧ e = 4) ∨ (p.ok ∧ allV n f ∧ n ≤ 20 ∧ (v = true ↔ InQ p n f) ∧ e = 0)
theorem inO_ex (p : Pt) (n : Nat) (f : Nat → Pt) : ∃ v e, InO p n f v e := by
  by_cases h0 : p.ok
  · by_cases h1 : allV n f
    · by_cases h2 : 20 < n
      · exact ⟨false, 4, .inr (.inl ⟨h0, h1, h2, rfl, rfl⟩)⟩
      · rcases Classical.em (InQ p n f) with h | h
        · exact ⟨true, 0, .inr (.inr ⟨h0, h1, by omega, ⟨fun _ => h, fun _ => rfl⟩, rfl⟩)⟩
        · exact ⟨false, 0, .inr (.inr ⟨h0, h1, by omega, ⟨fun q => (by cases q), fun q => absurd q h⟩, rfl⟩)⟩
    · exact ⟨false, 1, .inl ⟨.inr h1, rfl, rfl⟩⟩
  · exact ⟨false, 1, .inl ⟨.inl h0, rfl, rfl⟩⟩
set_option maxRecDepth 100000 in
set_option maxHeartbeats 16000000 in
theorem inside_any (p : Pt) (ra : Option Addr) (n rc : Nat) (f : Nat → Pt) (w : World) (hp : PR w) (hl : PtR w ra n f) (hrc : n ≤ rc) (hrc2 : rc ≤ 9223372036854775807) (v : Bool) (e : Int) (h : InO p n f v e) :
    Calls Tryd.prog 11 #[.agg #[.int .i64 p.x, .int .i64 p.y, .int .i64 p.z], .slice ra n rc] w fun r w' => r = .returned (.tuple #[.bool v, .int .i64 e]) ∧ Below w.heap.size w w' := by
  obtain ⟨w1, hw1⟩ : ∃ W, W = w.alloc (Obj.cells #[.int .i64 p.x, .int .i64 p.y, .int .i64 p.z] 23) := ⟨_, rfl⟩
  obtain ⟨b2, hb2⟩ : ∃ x, x = w.heap.size := ⟨_, rfl⟩
  have bl := below_alloc w (Obj.cells #[.int .i64 p.x, .int .i64 p.y, .int .i64 p.z] 23)
  have hP := B3.new w p.x p.y p.z 23
  rw [← hw1] at bl hP
  rw [← hb2] at hP
  have HN : Hid (b2 = w.heap.size ∧ w1 = w.alloc (Obj.cells #[.int .i64 p.x, .int .i64 p.y, .int .i64 p.z] 23)) := ⟨hb2, hw1⟩
  have HB := Lib.hid bl
  have HP := Lib.hid hP
  have HL := Lib.hid (hl.on bl)
  have HPR := Lib.hid (hp.on bl)
  have c0 := hP.c0
  have c1 := hP.c1
  have c2 := hP.c2
  have CV := fun W => Lib.hid (pVd_any p W)
  have CE := fun W hW => Lib.hid (errorOf_any ra n rc f W ((HL.out).on hW) (by omega))
  clear bl hP hw1 hb2 hp hl
  by_cases hpo : p.ok
  · rw [show vdB p = true from decide_eq_true hpo] at CV
    have HPO := Lib.hid hpo
    by_cases her : erL n f = 0
    · have hall : allV n f ∧ n ≤ 20 := by
        unfold erL at her
        by_cases h1 : allV n f
        · rw [if_neg (fun q => q h1)] at her
          by_cases h2 : 20 < n
          · rw [if_pos h2] at her; cases her
          · exact ⟨h1, by omega⟩
        · rw [if_pos h1] at her; cases her
      rw [her] at CE
      have hv : (v = true ↔ InQ p n f) ∧ e = 0 := by
        rcases h with ⟨h1, _⟩ | ⟨_, _, h1, _⟩ | ⟨_, _, _, h1, h2⟩
        · rcases h1 with h1 | h1
          · exact absurd hpo h1
          · exact absurd hall.1 h1
        · omega
        · exact ⟨h1, h2⟩
      obtain ⟨hv, rfl⟩ := hv
      rw [← in_code] at hv
      have HV := Lib.hid hv
      have HA := Lib.hid hall
      have h20 := hall.2
      clear h her hall hv hpo
      go_enter Tryd.func11, Tryd.ntmps11
      go_upto_region 1 with fail
      rw [← HN.out.2, ← HN.out.1]
      clear HN
      go_upto_region 3 with (go_at_call 48; (with_reducible refine ((CV _).out.mono ?_)); rintro r w2 ⟨rfl, hb2⟩; have HB2 := Lib.hid (below_on HB.out hb2); have HP2 := Lib.hid (HP.out.on hb2); have HL2 := Lib.hid (HL.out.on hb2); have HPR2 := Lib.hid (HPR.out.on hb2); have CE2 := CE w2 hb2; clear hb2 HB HP HPR CV CE c0 c1 c2)
      clear HL
      go_upto_region 6 with (go_at_call 42; (with_reducible refine ((CE2.out).mono ?_)); rintro r w3 ⟨rfl, hb3⟩; have HB3 := Lib.hid (below_on HB2.out hb3); have HP3 := Lib.hid (HP2.out.on hb3); have HL3 := Lib.hid (HL2.out.on hb3); have HPR3 := Lib.hid (HPR2.out.on hb3); clear hb3 HB2 HP2 HL2 HPR2 CE2)
      by_cases h0 : 0 < n
      · obtain ⟨sg, o, e1, hg, hc⟩ := HL3.out h0
        subst e1
        have HS : Hid (InS w w3 b2 sg o n p f) := ⟨HB3.out, HP3.out, hg, HPR3.out, hc⟩
        have S0 : Hid (∀ i j k, i < 0 → j ≤ i → k ≤ j → ¬ inT p (f i) (f j) (f k)) := fun i j k h => by omega
        clear HB3 HP3 HL3 HPR3 hg hc
        go_wp2_with fail
        go_loopg [23] n (fun mm s23 wx => ∃ i : Nat, s23 = .int .i64 (i : Int) ∧ mm = n - i ∧ i ≤ n ∧ Hid (InS w wx b2 sg o n p f) ∧ Hid (∀ i2 j k, i2 < i → j ≤ i2 → k ≤ j → ¬ inT p (f i2) (f j) (f k)))
        case atStart => exact ⟨0, rfl, rfl, by omega, HS, S0⟩
        case round =>
          clear HS S0
          obtain ⟨i, rfl, rfl, hi, HS, HZ⟩ := hrel
          rename World => W1
          by_cases hlt : i < n
          · have wi : IntKind.i64.wrap ((i : Int) + 1) = ((i + 1 : Nat) : Int) := by rw [IntWalk.i64_in _ (by omega)]; omega
            have li : (i : Int) < (n : Int) := by omega
            have hci := HS.out.c i hlt
            obtain ⟨a, ha⟩ : ∃ a, f i = a := ⟨_, rfl⟩
            have HAi := Lib.hid ha
            rw [ha] at hci
            have q0 := hci.1
            have q1 := hci.2.1
            have q2 := hci.2.2
            have bl := below_alloc W1 (Obj.cells #[.int .i64 a.x, .int .i64 a.y, .int .i64 a.z] 23)
            have HS2 : Hid (InS w (W1.alloc (Obj.cells #[.int .i64 a.x, .int .i64 a.y, .int .i64 a.z] 23)) b2 sg o n p f ∧ B3 (W1.alloc (Obj.cells #[.int .i64 a.x, .int .i64 a.y, .int .i64 a.z] 23)) W1.heap.size a.x a.y a.z) := ⟨HS.out.on bl, B3.new _ _ _ _ _⟩
            obtain ⟨W2, hW2⟩ : ∃ W, W = W1.alloc (Obj.cells #[.int .i64 a.x, .int .i64 a.y, .int .i64 a.z] 23) := ⟨_, rfl⟩
            obtain ⟨b8, hb8⟩ : ∃ x, x = W1.heap.size := ⟨_, rfl⟩
            rw [← hW2, ← hb8] at HS2
            have HN : Hid (W2 = W1.alloc (Obj.cells #[.int .i64 a.x, .int .i64 a.y, .int .i64 a.z] 23) ∧ b8 = W1.heap.size) := ⟨hW2, hb8⟩
            have lic : (i : Int) + 1 ≤ (rc : Int) := by omega
            have lic2 : ((i + 1 : Nat) : Int) ≤ (rc : Int) := by omega
            have li0 : (0 : Int) ≤ ((i + 1 : Nat) : Int) := by omega
            clear ha hci bl hW2 hb8
            go_upto_region 9 with fail
            rw [← HN.out.1, ← HN.out.2]
            clear HN q0 q1 q2 HS
            go_wp2_with fail
            go_loopg [33] (i + 1) (fun mj s33 wx => ∃ j : Nat, s33 = .int .i64 (j : Int) ∧ mj = i + 1 - j ∧ j ≤ i + 1 ∧ Hid (InS w wx b2 sg o n p f ∧ B3 wx b8 a.x a.y a.z) ∧ Hid (∀ j2 k, j2 < j → k ≤ j2 → ¬ inT p a (f j2) (f k)))
            case atStart => exact ⟨0, rfl, rfl, by omega, HS2, fun j k h => by omega⟩
            case round =>
              clear HS2
              obtain ⟨j, rfl, rfl, hj, HS, HY⟩ := hrel
              rename World => W3
              by_cases hjt : j < i + 1
              · have wj : IntKind.i64.wrap ((j : Int) + 1) = ((j + 1 : Nat) : Int) := by rw [IntWalk.i64_in _ (by omega)]; omega
                have lj : (j : Int) < ((i + 1 : Nat) : Int) := by omega
                have lj2 : (j : Int) < (i : Int) + 1 := by omega
                have hcj := HS.out.1.c j (by omega)
                obtain ⟨b, hb⟩ : ∃ b, f j = b := ⟨_, rfl⟩
                have HBj := Lib.hid hb
                rw [hb] at hcj
                have q0 := hcj.1
                have q1 := hcj.2.1
                have q2 := hcj.2.2
                have bl := below_alloc W3 (Obj.cells #[.int .i64 b.x, .int .i64 b.y, .int .i64 b.z] 23)
                have HS4 : Hid ((InS w (W3.alloc (Obj.cells #[.int .i64 b.x, .int .i64 b.y, .int .i64 b.z] 23)) b2 sg o n p f ∧ B3 (W3.alloc (Obj.cells #[.int .i64 b.x, .int .i64 b.y, .int .i64 b.z] 23)) b8 a.x a.y a.z) ∧ B3 (W3.alloc (Obj.cells #[.int .i64 b.x, .int .i64 b.y, .int .i64 b.z] 23)) W3.heap.size b.x b.y b.z) := ⟨⟨HS.out.1.on bl, HS.out.2.on bl⟩, B3.new _ _ _ _ _⟩
                obtain ⟨W4, hW4⟩ : ∃ W, W = W3.alloc (Obj.cells #[.int .i64 b.x, .int .i64 b.y, .int .i64 b.z] 23) := ⟨_, rfl⟩
                obtain ⟨b10, hb10⟩ : ∃ x, x = W3.heap.size := ⟨_, rfl⟩
                rw [← hW4, ← hb10] at HS4
                have HN : Hid (W4 = W3.alloc (Obj.cells #[.int .i64 b.x, .int .i64 b.y, .int .i64 b.z] 23) ∧ b10 = W3.heap.size) := ⟨hW4, hb10⟩
                have ljc : ((j + 1 : Nat) : Int) ≤ (rc : Int) := by omega
                have lj0 : (0 : Int) ≤ ((j + 1 : Nat) : Int) := by omega
                clear hb hcj bl hW4 hb10
                go_upto_region 12 with fail
                rw [← HN.out.1, ← HN.out.2]
                clear HN q0 q1 q2 HS
                go_wp2_with fail
                go_loopg [43] (j + 1) (fun mk s43 wx => ∃ k : Nat, s43 = .int .i64 (k : Int) ∧ mk = j + 1 - k ∧ k ≤ j + 1 ∧ Hid ((InS w wx b2 sg o n p f ∧ B3 wx b8 a.x a.y a.z) ∧ B3 wx b10 b.x b.y b.z) ∧ Hid (∀ k2, k2 < k → ¬ inT p a b (f k2)))
                case atStart => exact ⟨0, rfl, rfl, by omega, HS4, fun k h => by omega⟩
                case round =>
                  clear HS4
                  obtain ⟨k, rfl, rfl, hk, HS, HX⟩ := hrel
                  rename World => W5
                  by_cases hkt : k < j + 1
                  · have wk : IntKind.i64.wrap ((k : Int) + 1) = ((k + 1 : Nat) : Int) := by rw [IntWalk.i64_in _ (by omega)]; omega
                    have lk : (k : Int) < ((j + 1 : Nat) : Int) := by omega
                    have lk2 : (k : Int) < (j : Int) + 1 := by omega
                    have hck := HS.out.1.1.c k (by omega)
                    obtain ⟨d, hd⟩ : ∃ d, f k = d := ⟨_, rfl⟩
                    have HDk := Lib.hid hd
                    rw [hd] at hck
                    have q0 := hck.1
                    have q1 := hck.2.1
                    have q2 := hck.2.2
                    have bl := below_alloc W5 (Obj.cells #[.int .i64 d.x, .int .i64 d.y, .int .i64 d.z] 23)
                    have HS6 : Hid (((InS w (W5.alloc (Obj.cells #[.int .i64 d.x, .int .i64 d.y, .int .i64 d.z] 23)) b2 sg o n p f ∧ B3 (W5.alloc (Obj.cells #[.int .i64 d.x, .int .i64 d.y, .int .i64 d.z] 23)) b8 a.x a.y a.z) ∧ B3 (W5.alloc (Obj.cells #[.int .i64 d.x, .int .i64 d.y, .int .i64 d.z] 23)) b10 b.x b.y b.z) ∧ B3 (W5.alloc (Obj.cells #[.int .i64 d.x, .int .i64 d.y, .int .i64 d.z] 23)) W5.heap.size d.x d.y d.z) := ⟨⟨⟨HS.out.1.1.on bl, HS.out.1.2.on bl⟩, HS.out.2.on bl⟩, B3.new _ _ _ _ _⟩
                    obtain ⟨W6, hW6⟩ : ∃ W, W = W5.alloc (Obj.cells #[.int .i64 d.x, .int .i64 d.y, .int .i64 d.z] 23) := ⟨_, rfl⟩
                    obtain ⟨b12, hb12⟩ : ∃ x, x = W5.heap.size := ⟨_, rfl⟩
                    rw [← hW6, ← hb12] at HS6
                    have HN : Hid (W6 = W5.alloc (Obj.cells #[.int .i64 d.x, .int .i64 d.y, .int .i64 d.z] 23) ∧ b12 = W5.heap.size) := ⟨hW6, hb12⟩
                    have CT := Lib.hid (tri3_any p a b d W6 HS6.out.1.1.1.p HPO.out (by rw [← HAi.out]; exact HA.out.1 i hlt) (by rw [← HBj.out]; exact HA.out.1 j (by omega)) (by rw [← HDk.out]; exact HA.out.1 k (by omega)))
                    obtain ⟨t, ht⟩ : ∃ t, decide (inT p a b d) = t := ⟨_, rfl⟩
                    have HT : Hid (t = true ↔ inT p a b d) := by show t = true ↔ _; rw [← ht]; exact decide_eq_true_iff
                    rw [ht] at CT
                    clear hd hck bl hW6 hb12 ht
                    go_upto_region 15 with fail
                    rw [← HN.out.1, ← HN.out.2]
                    clear HN q0 q1 q2 HS
                    have p0 := HS6.out.1.1.1.P.c0
                    have p1 := HS6.out.1.1.1.P.c1
                    have p2 := HS6.out.1.1.1.P.c2
                    have a0 := HS6.out.1.1.2.c0
                    have a1 := HS6.out.1.1.2.c1
                    have a2 := HS6.out.1.1.2.c2
                    have e0 := HS6.out.1.2.c0
                    have e1 := HS6.out.1.2.c1
                    have e2 := HS6.out.1.2.c2
                    have d0 := HS6.out.2.c0
                    have d1 := HS6.out.2.c1
                    have d2 := HS6.out.2.c2
                    go_wp2_with fail
                    (with_reducible refine ((CT.out).mono ?_))
                    rintro r W7 ⟨rfl, hb7⟩
                    have HS7 : Hid ((InS w W7 b2 sg o n p f ∧ B3 W7 b8 a.x a.y a.z) ∧ B3 W7 b10 b.x b.y b.z) := ⟨⟨HS6.out.1.1.1.on hb7, HS6.out.1.1.2.on hb7⟩, HS6.out.1.2.on hb7⟩
                    clear hb7 CT HS6 p0 p1 p2 a0 a1 a2 e0 e1 e2 d0 d1 d2
                    cases t with
                    | true =>
                      have hv : v = true := HV.out.2 ⟨i, j, k, hlt, by omega, by omega, by rw [HAi.out, HBj.out, HDk.out]; exact HT.out.1 rfl⟩
                      subst hv
                      clear HV HT HX HY HZ
                      go_wp2_with fail
                      go_ret2
                      exact ⟨rfl, HS7.out.1.1.st⟩
                    | false =>
                      have HX2 : Hid (∀ k2, k2 < k + 1 → ¬ inT p a b (f k2)) := fun k2 h => by
                        by_cases e : k2 = k
                        · rw [e, HDk.out]; exact fun q => by have := HT.out.2 q; cases this
                        · exact HX.out k2 (by omega)
                      clear HX HT HDk
                      go_wp2_with fail
                      go_roundg (j + 1 - (k + 1))
                      case measure => omega
                      case rel => exact ⟨k + 1, rfl, rfl, by omega, HS7, HX2⟩
                  · have lk : ¬ (k : Int) < ((j + 1 : Nat) : Int) := by omega
                    have lk2 : ¬ (k : Int) < (j : Int) + 1 := by omega
                    have HS7 := Lib.hid HS.out.1
                    have HY2 : Hid (∀ j2 k, j2 < j + 1 → k ≤ j2 → ¬ inT p a (f j2) (f k)) := fun j2 k2 h1 h2 => by
                      by_cases e : j2 = j
                      · rw [e, HBj.out]; exact HX.out k2 (by omega)
                      · exact HY.out j2 k2 (by omega) h2
                    clear HX HY HS HBj
                    go_wp2_with fail
                    go_roundg (i + 1 - (j + 1))
                    case measure => omega
                    case rel => exact ⟨j + 1, rfl, rfl, by omega, HS7, HY2⟩
              · have lj : ¬ (j : Int) < ((i + 1 : Nat) : Int) := by omega
                have lj2 : ¬ (j : Int) < (i : Int) + 1 := by omega
                have HS7 := Lib.hid HS.out.1
                have HZ2 : Hid (∀ i2 j k, i2 < i + 1 → j ≤ i2 → k ≤ j → ¬ inT p (f i2) (f j) (f k)) := fun i2 j2 k2 h1 h2 h3 => by
                  by_cases e : i2 = i
                  · rw [e, HAi.out]; exact HY.out j2 k2 (by omega) h3
                  · exact HZ.out i2 j2 k2 (by omega) h2 h3
                clear HY HZ HS HAi
                go_wp2_with fail
                go_roundg (n - (i + 1))
                case measure => omega
                case rel => exact ⟨i + 1, rfl, rfl, by omega, HS7, HZ2⟩
          · have li : ¬ (i : Int) < (n : Int) := by omega
            have hv : v = false := by
              cases h : v
              · rfl
              · obtain ⟨i2, j2, k2, h1, h2, h3, h4⟩ := HV.out.1 h
                exact absurd h4 (HZ.out i2 j2 k2 (by omega) h2 h3)
            subst hv
            have HE := Lib.hid HS.out.st
            clear HV HZ HS
            go_wp2_with fail
            go_ret2
            exact ⟨rfl, HE.out⟩
      · have e0 : n = 0 := by omega
        subst e0
        have hv : v = false := by
          cases h : v
          · rfl
          · obtain ⟨i2, j2, k2, h1, _⟩ := HV.out.1 h
            omega
        subst hv
        clear HV HL3 h0 h20
        go_wp2_with fail
        go_loopg [23] 1 (fun mm s23 wx => s23 = .int .i64 0 ∧ mm = 1 ∧ wx = w3)
        case atStart => exact ⟨rfl, rfl, rfl⟩
        case round =>
          obtain ⟨rfl, rfl, rfl⟩ := hrel
          go_wp2_with fail
          go_ret2
          exact ⟨rfl, HB3.out⟩
    · have hve : v = false ∧ e = erL n f := by
        rcases h with ⟨h1, h2, h3⟩ | ⟨h1, h2, h3, h4, h5⟩ | ⟨_, h1, h2, _⟩
        · refine ⟨h2, ?_⟩
          rcases h1 with h1 | h1
          · exact absurd hpo h1
          · rw [h3]; unfold erL; rw [if_pos h1]
        · refine ⟨h4, ?_⟩
          rw [h5]; unfold erL; rw [if_neg (fun q => q h2), if_pos h3]
        · exact absurd (show erL n f = 0 by unfold erL; rw [if_neg (fun q => q h1), if_neg (by omega)]) her
      obtain ⟨rfl, rfl⟩ := hve
      obtain ⟨er, her2⟩ : ∃ er, erL n f = er := ⟨_, rfl⟩
      rw [her2] at CE her
      rw [her2]
      have hne : (er != 0) = true := by simpa using her
      clear h her2 her hpo
      go_enter Tryd.func11, Tryd.ntmps11
      go_upto_region 1 with fail
      rw [← HN.out.2, ← HN.out.1]
      clear HN
      go_upto_region 3 with (go_at_call 48; (with_reducible refine ((CV _).out.mono ?_)); rintro r w2 ⟨rfl, hb2⟩; have HB2 := Lib.hid (below_on HB.out hb2); have CE2 := CE w2 hb2; clear hb2 HB HP HPR CV CE c0 c1 c2)
      go_wp2_with (go_at_call 42; (with_reducible refine ((CE2.out).mono ?_)); rintro r w3 ⟨rfl, hb3⟩; have HE := Lib.hid (below_on HB2.out hb3); clear hb3)
      go_ret2
      exact ⟨rfl, HE.out⟩
  · rw [show vdB p = false from decide_eq_false hpo] at CV
    have hve : v = false ∧ e = 1 := by
      rcases h with ⟨_, h2, h3⟩ | ⟨h1, _⟩ | ⟨h1, _⟩
      · exact ⟨h2, h3⟩
      · exact absurd h1 hpo
      · exact absurd h1 hpo
    obtain ⟨rfl, rfl⟩ := hve
    clear h hpo CE
    go_enter Tryd.func11, Tryd.ntmps11
    go_upto_region 1 with fail
    rw [← HN.out.2, ← HN.out.1]
    clear HN
    go_wp2_with (go_at_call 48; (with_reducible refine ((CV _).out.mono ?_)); rintro r w2 ⟨rfl, hb2⟩; have HE := Lib.hid (below_on HB.out hb2); clear hb2)
    go_ret2
    exact ⟨rfl, HE.out⟩
end Go.Proofs.YtcghjjfpjiacfaaDoor
