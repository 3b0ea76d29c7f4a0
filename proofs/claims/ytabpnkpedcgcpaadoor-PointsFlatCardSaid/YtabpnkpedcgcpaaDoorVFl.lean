/- Layer 9: law PointsFlat. -/
import Derived.Test.YtabpnkpedcgcpaaDoorVClo
namespace Go.Proofs.YtabpnkpedcgcpaaDoor
open Go.ChangeShapes Go.WideShapes Go.ChangeAt Go.RowKit Go.Joins Go.Deep Go.Shelf
set_option linter.unusedVariables false

/-- The list that was given, and the table, as they lie; the copy. -/
structure FlS (w W : World) (ra : Option Addr) (n : Nat) (f : Nat → Pt) : Prop where
  st : Below w.heap.size w W
  l : PtR W ra n f
  p : PR W
theorem FlS.on {w W W2 : World} {ra : Option Addr} {n : Nat} {f : Nat → Pt} (h : FlS w W ra n f) (hb : Below W.heap.size W W2) : FlS w W2 ra n f := ⟨below_on h.st hb, h.l.on hb, h.p.on hb⟩
theorem FlS.wr {w W W2 : World} {ra : Option Addr} {n : Nat} {f : Nat → Pt} (h0 : FlS w w ra n f) (h : FlS w W ra n f) (hb : Below w.heap.size W W2) : FlS w W2 ra n f :=
  ⟨h.st.trans hb, h0.l.on (h.st.trans hb), h0.p.on (h.st.trans hb)⟩
theorem flO_rev {n : Nat} {f : Nat → Pt} {v : Bool} (hv : allV n f) (hn : n ≤ 20) (h : v = true ↔ FlatQ n f) : FlO n (fun i => f (n - 1 - i)) v 0 :=
  .inr (.inr ⟨fun i hi => hv _ (by omega), hn, h.trans ⟨fun q => flat_sub n n f _ (fun i => n - 1 - i) (fun i hi => ⟨by omega, rfl⟩) q, fun q => flat_sub n n (fun i => f (n - 1 - i)) f (fun i => n - 1 - i) (fun i hi => ⟨by omega, by show f i = f (n - 1 - (n - 1 - i)); congr 1; omega⟩) q⟩, rfl⟩)
theorem PtO.cong {W : World} {g n : Nat} {f f2 : Nat → Pt} (h : PtO W g n f) (e : ∀ k, k < n → f2 k = f k) : PtO W g n f2 := ⟨h.lt, fun i hi => by rw [e i hi]; exact h.c i hi, h.fz⟩
theorem OwnO.cong {B : Nat} {W : World} {v : Value} {n : Nat} {f f2 : Nat → Pt} (h : OwnO B W v n f) (e : ∀ k, k < n → f2 k = f k) : OwnO B W v n f2 := by
  obtain ⟨ao, cp, h1, h2, h3, h4⟩ := h
  exact ⟨ao, cp, h1, h2, h3, fun h0 => by
    obtain ⟨g, e1, hl, hg⟩ := h4 h0
    exact ⟨g, e1, hl, hg.cong e⟩⟩
set_option maxRecDepth 100000 in
set_option maxHeartbeats 32000000 in
theorem flat_walk (ra : Option Addr) (n rc : Nat) (f : Nat → Pt) (z : Int) (cut : Int) (w : World) (hp : PR w) (hl : PtR w ra n f) (hpi : ∀ i, i < n → PI (f i)) (hrc : n ≤ rc) (hrc2 : rc ≤ 9223372036854775807) (hnil : ra = none → n = 0 ∧ rc = 0) (z0 : -9223372036854775808 ≤ z) (z1 : z ≤ 9223372036854775807) (c0 : 0 ≤ cut) (c1 : cut ≤ 255) :
    Calls Tryd.prog 6 #[.slice ra n rc, .int .i64 z, .int .u8 cut] w fun e w' => e = .returned (.bool true) ∧ Below w.heap.size w w' := by
  have CA := fun W => Lib.hid (pawake_any W)
  have H0 : Hid (FlS w w ra n f) := ⟨Below.refl _ _, hl, hp⟩
  obtain ⟨v, e, hfl⟩ := flO_ex n f
  have HFL := Lib.hid hfl
  have HRC := Lib.hid (And.intro hrc hrc2)
  have HNIL := Lib.hid hnil
  have CF : Hid (∀ W, FlS w W ra n f → Calls Tryd.prog 8 #[.slice ra n rc] W fun r w' => r = .returned (.tuple #[.bool v, .int .i64 e]) ∧ Below W.heap.size W w') := fun W h => flat_any ra n rc f W h.p h.l hrc hrc2 v e hfl
  clear hp hl hpi hnil hfl hrc2
  go_enter Tryd.func6, Tryd.ntmps6
  go_upto_region 3 with (go_at_call 7; (with_reducible refine ((CA _).out.mono ?_)); rintro r w2 ⟨rfl, hb2⟩; have HS2 := Lib.hid (H0.out.on hb2); clear hb2 CA)
  by_cases h12 : 12 < n
  · have d12 : decide ((12 : Int) < (n : Int)) = true := decide_eq_true (by omega)
    clear HFL CF hrc
    go_wp2_with fail
    go_ret
    exact ⟨rfl, HS2.out.st⟩
  have d12 : decide ((12 : Int) < (n : Int)) = false := decide_eq_false (by omega)
  have CF2 := Lib.hid (CF.out w2 HS2.out)
  clear CF
  go_upto_region 6 with (go_at_call 8; (with_reducible refine ((CF2.out).mono ?_)); rintro r w3 ⟨rfl, hb3⟩; have HS3 := Lib.hid (HS2.out.on hb3); clear hb3 HS2 CF2)
  by_cases he : e = 0
  · subst he
    have hok : allV n f ∧ (v = true ↔ FlatQ n f) := by
      rcases HFL.out with ⟨_, _, h⟩ | ⟨_, _, _, h⟩ | ⟨h1, _, h2, _⟩
      · cases h
      · cases h
      · exact ⟨h1, h2⟩
    have HV := Lib.hid hok.1
    have HQ := Lib.hid hok.2
    have h20 : n ≤ 20 := by omega
    clear hok HFL d12
    have CC := Lib.hid (Clone_pts ra n rc f w3 HS3.out.l (by omega))
    go_upto_region 9 with (go_at_call 19; (with_reducible refine ((CC.out).mono ?_)); rintro r w4 ⟨⟨tv, rfl, htv⟩, hb4⟩; have HS4 := Lib.hid (HS3.out.on hb4); have hlo4 := HS3.out.st.size; have HO4 := Lib.hid htv; clear hb4 CC htv)
    obtain ⟨ta, tc, etv, _⟩ := HO4.out
    have etv2 := etv
    subst etv2
    clear etv
    have CR := Lib.hid (Reverse_pts w3.heap.size n f (.slice ta n tc) w4 (by omega) HO4.out)
    go_upto_region 10 with (go_at_call 20; (with_reducible refine ((CR.out).mono ?_)); rintro r w5 ⟨rfl, ho5, hb5⟩; have HS5 := Lib.hid (H0.out.wr HS4.out (hb5.mono hlo4)); have HO5 := Lib.hid ho5; clear ho5 hb5 CR HO4 HS4 HS3)
    have CB := Lib.hid (flat_any ta n tc (fun i => f (n - 1 - i)) w5 HS5.out.p HO5.out.ptr.1 HO5.out.ptr.2.1 HO5.out.ptr.2.2 v 0 (flO_rev HV.out h20 HQ.out))
    go_upto_region 11 with (go_at_call 8; (with_reducible refine ((CB.out).mono ?_)); rintro r w6 ⟨rfl, hb6⟩; have HS6 := Lib.hid (HS5.out.on hb6); have HO6 := Lib.hid (HO5.out.on hb6); clear hb6 CB HO5 HS5)
    obtain ⟨v2, hv2⟩ : ∃ v2 : Bool, ∀ m : Nat, (m : Int) = cut.tmod ((n : Int) + 1) → m ≤ n ∧ FlO m f v2 0 ∧ (v = true → v2 = true) := by
      have h1 : 0 ≤ cut.tmod ((n : Int) + 1) := Int.tmod_nonneg _ c0
      have h2 := Int.tmod_lt_of_pos cut (show (0 : Int) < (n : Int) + 1 by omega)
      have hm : (cut.tmod ((n : Int) + 1)).toNat ≤ n := by omega
      obtain ⟨v2, e2, h⟩ := flO_ex (cut.tmod ((n : Int) + 1)).toNat f
      have hall : allV (cut.tmod ((n : Int) + 1)).toNat f := fun i hi => HV.out i (by omega)
      rcases h with ⟨h, _⟩ | ⟨_, h, _⟩ | ⟨k1, k2, k3, rfl⟩
      · exact absurd hall h
      · omega
      · refine ⟨v2, fun m hm2 => ?_⟩
        have e : m = (cut.tmod ((n : Int) + 1)).toNat := by omega
        rw [e]
        exact ⟨hm, .inr (.inr ⟨k1, k2, k3, rfl⟩), fun hv => k3.2 (flat_sub n _ f f (fun i => i) (fun i hi => ⟨by omega, rfl⟩) (HQ.out.1 hv))⟩
    obtain ⟨m, hm⟩ : ∃ m : Nat, cut.tmod ((n : Int) + 1) = (m : Int) := ⟨(cut.tmod ((n : Int) + 1)).toNat, by have := Int.tmod_nonneg ((n : Int) + 1) c0; omega⟩
    obtain ⟨hmn, hmf, hmv⟩ := hv2 m hm.symm
    have HMV := Lib.hid hmv
    have CP := Lib.hid (flat_any ra m rc f w6 HS6.out.p (HS6.out.l.take hmn) (by omega) HRC.out.2 v2 0 hmf)
    have wn : IntKind.i64.wrap ((n : Int) + 1) = (n : Int) + 1 := IntWalk.i64_in _ (by omega)
    have nz : ¬ (n : Int) + 1 = 0 := by omega
    have nz2 : ¬ (n : Int) + 1 = -1 := by omega
    have wm : IntKind.i64.wrap (m : Int) = (m : Int) := IntWalk.i64_in _ (by omega)
    have wc : IntKind.i64.wrap cut = cut := IntWalk.i64_in _ (by omega)
    have lm0 : (0 : Int) ≤ (m : Int) := by omega
    have lm1 : (m : Int) ≤ (rc : Int) := by omega
    clear hv2 hmv hmf
    go_cut [12, 13] (fun s12 s13 wx => s12 = .bool v2 ∧ s13 = .int .i64 0 ∧ Hid (FlS w wx ra n f) ∧ Hid (OwnO w3.heap.size wx (.slice ta n tc) n (fun i => f (n - 1 - i))))
    case first =>
      cases ra with
      | none =>
        obtain ⟨e1, e2⟩ := HNIL.out rfl
        have em : m = 0 := by omega
        subst e1
        subst e2
        subst em
        go_wp2_with (go_at_call 8; (with_reducible refine ((CP.out).mono ?_)); rintro r w7 ⟨rfl, hb7⟩; have HS7 := Lib.hid (HS6.out.on hb7); have HO7 := Lib.hid (HO6.out.on hb7); clear hb7 CP HO6 HS6)
        go_meet
        exact ⟨rfl, rfl, HS7, HO7⟩
      | some a =>
        go_wp2_with (go_at_call 8; (with_reducible refine ((CP.out).mono ?_)); rintro r w7 ⟨rfl, hb7⟩; have HS7 := Lib.hid (HS6.out.on hb7); have HO7 := Lib.hid (HO6.out.on hb7); clear hb7 CP HO6 HS6)
        go_meet
        exact ⟨rfl, rfl, HS7, HO7⟩
    case rest =>
    obtain ⟨rfl, rfl, HS7, HO7⟩ := hcut
    rename World => w7
    clear CP HO6 HS6 hm hmn wn nz nz2 wm wc lm0 lm1
    have hk : min 3 n ≤ n := Nat.min_le_right _ _
    have h3f : FlO (min 3 n) f true 0 := .inr (.inr ⟨fun i hi => HV.out i (by omega), by omega, ⟨fun _ => flat_three _ _ (Nat.min_le_left _ _), fun _ => rfl⟩, rfl⟩)
    have CT := Lib.hid (flat_any ra (min 3 n) rc f w7 HS7.out.p (HS7.out.l.take hk) (by omega) HRC.out.2 true 0 h3f)
    obtain ⟨k, hkk⟩ : ∃ k, min 3 n = k := ⟨_, rfl⟩
    have hmi : min (3 : Int) (n : Int) = (k : Int) := by omega
    have hmi2 : (if (n : Int) < 3 then (n : Int) else 3) = (k : Int) := by split <;> omega
    rw [hkk] at CT hk
    have lk0 : (0 : Int) ≤ (k : Int) := by omega
    have lk1 : (k : Int) ≤ (rc : Int) := by omega
    clear h3f
    go_upto_region 12 with fail
    go_cut [14, 15] (fun s12 s13 wx => s12 = .bool true ∧ s13 = .int .i64 0 ∧ Hid (FlS w wx ra n f) ∧ Hid (OwnO w3.heap.size wx (.slice ta n tc) n (fun i => f (n - 1 - i))))
    case first =>
      cases ra with
      | none =>
        obtain ⟨e1, e2⟩ := HNIL.out rfl
        have em : k = 0 := by omega
        subst e1
        subst e2
        subst em
        go_wp2_with fail
        refine (show Calls Tryd.prog 8 #[.slice none (min (3 : Int) 0).toNat 0] w7 _ from CT.out).mono ?_
        rintro r w8 ⟨rfl, hb8⟩
        have HS8 := Lib.hid (HS7.out.on hb8)
        have HO8 := Lib.hid (HO7.out.on hb8)
        clear hb8 CT HO7 HS7
        go_wp2_with fail
        go_meet
        exact ⟨rfl, rfl, HS8, HO8⟩
      | some a =>
        rcases Nat.lt_or_ge n 3 with g1 | g1
        · have ek : k = n := by omega
          subst ek
          have gm : (k : Int) < 3 := by omega
          have gd : decide ((k : Int) < 3) = true := decide_eq_true gm
          clear hkk
          go_wp2_with (go_at_call 8; (with_reducible refine ((CT.out).mono ?_)); rintro r w8 ⟨rfl, hb8⟩; have HS8 := Lib.hid (HS7.out.on hb8); have HO8 := Lib.hid (HO7.out.on hb8); clear hb8 CT HO7 HS7)
          go_meet
          exact ⟨rfl, rfl, HS8, HO8⟩
        · have ek : k = 3 := by omega
          subst ek
          have gm : ¬ (n : Int) < 3 := by omega
          clear hkk
          go_wp2_with (go_at_call 8; (with_reducible refine ((CT.out).mono ?_)); rintro r w8 ⟨rfl, hb8⟩; have HS8 := Lib.hid (HS7.out.on hb8); have HO8 := Lib.hid (HO7.out.on hb8); clear hb8 CT HO7 HS7)
          go_meet
          exact ⟨rfl, rfl, HS8, HO8⟩
    case rest =>
    obtain ⟨rfl, rfl, HS8, HO8⟩ := hcut
    rename World => w8
    clear CT HO7 HS7 hkk hmi hmi2 hk lk0 lk1
    go_upto_region 13 with fail
    go_cut [88] (fun s wx => s = .bool false ∧ wx = w8)
    case first =>
      cases v with
      | false =>
        go_wp2_with fail
        all_goals first
          | (exfalso; rename_i h1 h2; exact absurd h1 (by simp [undef]))
          | (go_meet; exact ⟨rfl, rfl⟩)
      | true =>
        have e2 : v2 = true := HMV.out rfl
        subst e2
        go_wp2_with fail
        all_goals first
          | (exfalso; rename_i h1 h2; exact absurd h1 (by simp [undef]))
          | (go_meet; exact ⟨rfl, rfl⟩)
    case rest =>
    obtain ⟨rfl, hwc⟩ := hcut
    have hwc2 := hwc.symm
    subst hwc2
    clear hwc HMV HQ
    have S0 : Hid (OwnO w3.heap.size w8 (.slice ta n tc) n (fun k => if k < 0 then ⟨(f (n - 1 - k)).x, (f (n - 1 - k)).y, z⟩ else f (n - 1 - k))) := HO8
    go_upto_region 15 with fail
    go_wp2_with fail
    go_loopg [91] n (fun mm s91 wx => ∃ i : Nat, s91 = .int .i64 (i : Int) ∧ mm = n - i ∧ i ≤ n ∧ Hid (FlS w wx ra n f) ∧ Hid (OwnO w3.heap.size wx (.slice ta n tc) n (fun k => if k < i then ⟨(f (n - 1 - k)).x, (f (n - 1 - k)).y, z⟩ else f (n - 1 - k))))
    case atStart => exact ⟨0, rfl, rfl, by omega, HS8, S0⟩
    case round =>
      clear S0 HS8 HO8
      obtain ⟨i, rfl, rfl, hi, HS, HO⟩ := hrel
      rename World => W1
      by_cases hlt : i < n
      · have wi : IntKind.i64.wrap ((i : Int) + 1) = ((i + 1 : Nat) : Int) := by rw [IntWalk.i64_in _ (by omega)]; omega
        have li : (i : Int) < (n : Int) := by omega
        obtain ⟨ao, cp, e1, e2, e3, e4⟩ := HO.out
        injection e1 with k1 k2 k3
        subst k1
        subst k3
        obtain ⟨g, e5, hl, hg⟩ := e4 (by omega)
        have e6 := e5.symm
        subst e6
        clear e5
        have hc := (hg.c i hlt).2.2
        have hfz := hg.fz (i * 3 + 2) (by omega)
        have hgl := hg.lt
        have HN : Hid (FlS w (W1.setCell ⟨g, i * 3 + 2, none⟩ (.int .i64 z)) ra n f ∧ OwnO w3.heap.size (W1.setCell ⟨g, i * 3 + 2, none⟩ (.int .i64 z)) (.slice (some ⟨g, 0, none⟩) n tc) n (fun k => if k < i + 1 then ⟨(f (n - 1 - k)).x, (f (n - 1 - k)).y, z⟩ else f (n - 1 - k))) := by
          refine ⟨H0.out.wr HS.out ((Below.refl w.heap.size W1).setCell (Nat.le_trans hlo4 hl) _), ⟨_, _, rfl, e2, e3, fun _ => ⟨g, rfl, hl, (hg.setz i hlt z).cong fun k hk => ?_⟩⟩⟩
          by_cases q : k = i
          · subst q
            rw [if_pos rfl, if_pos (by omega), if_neg (by omega)]
          · rw [if_neg q]
            by_cases q2 : k < i
            · rw [if_pos q2, if_pos (by omega)]
            · rw [if_neg q2, if_neg (by omega)]
        clear HS HO e4 hg hl
        go_wp2_with fail
        go_roundg (n - (i + 1))
        case measure => omega
        case rel => exact ⟨i + 1, rfl, rfl, by omega, HN.out.1, HN.out.2⟩
      · have ei : i = n := by omega
        have li : ¬ (i : Int) < (n : Int) := by omega
        have HO2 : Hid (OwnO w3.heap.size W1 (.slice ta n tc) n (fun k => ⟨(f (n - 1 - k)).x, (f (n - 1 - k)).y, z⟩)) := HO.out.cong fun k hk => by rw [if_pos (by omega)]
        have CFl := fun v3 e3 h => flat_any ta n tc (fun k => ⟨(f (n - 1 - k)).x, (f (n - 1 - k)).y, z⟩) W1 HS.out.p HO2.out.ptr.1 HO2.out.ptr.2.1 HO2.out.ptr.2.2 v3 e3 h
        clear HO HO2
        by_cases bad : 0 < n ∧ (z < -1048576 ∨ 1048576 < z)
        · have C := Lib.hid (CFl false 1 (.inl ⟨fun h => by have := (h 0 bad.1).2.2; unfold okc at this; have : -1048576 ≤ z ∧ z ≤ 1048576 := this; omega, rfl, rfl⟩))
          have HDN : Hid (decide ((0 : Int) < (n : Int)) = true ∧ 0 < n) := ⟨decide_eq_true (by omega), by omega⟩
          rcases bad.2 with b1 | b1
          · have d1 : decide (z < -1048576) = true := decide_eq_true b1
            clear CFl bad b1 ei
            go_upto_region 21 with (go_at_call 8; (with_reducible refine ((C.out).mono ?_)); rintro r w9 ⟨rfl, hb9⟩; have HE := Lib.hid (below_on HS.out.st hb9); clear hb9 C HS)
            have dn := HDN.out.1
            have dn2 := HDN.out.2
            go_wp2_with fail
            all_goals first
              | (go_ret; exact ⟨rfl, HE.out⟩)
              | (exfalso; rename_i h1 h2; have h3 : some undef = some (Value.bool _) := h1; simp [undef] at h3; done)
          · have d0 : decide (z < -1048576) = false := decide_eq_false (by omega)
            have d1 : decide (1048576 < z) = true := decide_eq_true b1
            clear CFl bad b1 ei
            go_upto_region 21 with (go_at_call 8; (with_reducible refine ((C.out).mono ?_)); rintro r w9 ⟨rfl, hb9⟩; have HE := Lib.hid (below_on HS.out.st hb9); clear hb9 C HS)
            have dn := HDN.out.1
            have dn2 := HDN.out.2
            go_wp2_with fail
            all_goals first
              | (go_ret; exact ⟨rfl, HE.out⟩)
              | (exfalso; rename_i h1 h2; have h3 : some undef = some (Value.bool _) := h1; simp [undef] at h3; done)
        · have C := Lib.hid (CFl true 0 (.inr (.inr ⟨fun i2 hi2 => ⟨(HV.out (n - 1 - i2) (by omega)).1, (HV.out (n - 1 - i2) (by omega)).2.1, by show okc z; unfold okc; omega⟩, h20, ⟨fun _ => flat_level n _ z (fun _ _ => rfl), fun _ => rfl⟩, rfl⟩)))
          clear CFl bad ei
          go_wp2_with (go_at_call 8; (with_reducible refine ((C.out).mono ?_)); rintro r w9 ⟨rfl, hb9⟩; have HE := Lib.hid (below_on HS.out.st hb9); clear hb9 C HS)
          all_goals first
            | (go_ret; exact ⟨rfl, HE.out⟩)
            | (exfalso; rename_i h1 h2; have h3 : some undef = some (Value.bool _) := h1; simp [undef] at h3; done)
  · have hv : v = false := by
      rcases HFL.out with ⟨_, h, _⟩ | ⟨_, _, h, _⟩ | ⟨_, _, _, h⟩
      · exact h
      · exact h
      · exact absurd h he
    subst hv
    have hne : (e != 0) = true := by simpa using he
    clear HFL d12
    go_wp2_with fail
    go_ret
    exact ⟨rfl, HS3.out.st⟩
end Go.Proofs.YtabpnkpedcgcpaaDoor
