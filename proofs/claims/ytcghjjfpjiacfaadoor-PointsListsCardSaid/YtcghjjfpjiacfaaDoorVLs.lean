/- Layer 9: law PointsLists (Zero's contract is a hypothesis). -/
import Derived.Test.YtcghjjfpjiacfaaDoorVLf
import Derived.Test.YtcghjjfpjiacfaaDoorVLi
import Derived.Test.YtcghjjfpjiacfaaDoorVG2
import Derived.Test.YtcghjjfpjiacfaaDoorVCard
namespace Go.Proofs.YtcghjjfpjiacfaaDoor
open Go.ChangeShapes Go.WideShapes Go.ChangeAt Go.RowKit Go.Joins Go.Deep Go.Shelf
set_option linter.unusedVariables false

structure LiS (w W : World) (b2 : Nat) (p : Pt) (ra : Option Addr) (n : Nat) (f : Nat → Pt) : Prop where
  st : Below w.heap.size w W
  P : B3 W b2 p.x p.y p.z
  pr : PR W
  l : PtR W ra n f
theorem LiS.on {w W W2 : World} {b2 : Nat} {p : Pt} {ra : Option Addr} {n : Nat} {f : Nat → Pt} (h : LiS w W b2 p ra n f) (hb : Below W.heap.size W W2) : LiS w W2 b2 p ra n f :=
  ⟨below_on h.st hb, h.P.on hb, h.pr.on hb, h.l.on hb⟩
set_option maxRecDepth 100000 in
set_option maxHeartbeats 64000000 in
theorem lists_walk0 (hzero : ∀ (x d : Pt) (W : World), lim3 x 8796093022208 → lim3 d 2097152 → Calls Tryd.prog 52 #[.agg #[.int .i64 x.x, .int .i64 x.y, .int .i64 x.z], .agg #[.int .i64 d.x, .int .i64 d.y, .int .i64 d.z]] W fun e w' => e = .returned (.bool (decide (x.dot d = 0))) ∧ Below W.heap.size W w')
    (p : Pt) (ra : Option Addr) (n rc : Nat) (f : Nat → Pt) (w : World) (hp : PR w) (_ : PI p) (hl : PtR w ra n f) (_ : ∀ i, i < n → PI (f i)) (hrc : n ≤ rc) (hrc2 : rc ≤ 9223372036854775807) (hnil : ra = none → n = 0 ∧ rc = 0) :
    Calls Tryd.prog 3 #[.agg #[.int .i64 p.x, .int .i64 p.y, .int .i64 p.z], .slice ra n rc] w fun e w' => e = .returned (.bool true) ∧ Below w.heap.size w w' := by
  have CA := fun W => Lib.hid (pawake_any W)
  obtain ⟨w1, hw1⟩ : ∃ W, W = w.alloc (Obj.cells #[.int .i64 p.x, .int .i64 p.y, .int .i64 p.z] 23) := ⟨_, rfl⟩
  obtain ⟨b2, hb2⟩ : ∃ x, x = w.heap.size := ⟨_, rfl⟩
  have hb1 : Below w.heap.size w w1 := by rw [hw1]; exact below_alloc _ _
  have hP : B3 w1 b2 p.x p.y p.z := by rw [hw1, hb2]; exact B3.new _ _ _ _ _
  have HN : Hid (w1 = w.alloc (Obj.cells #[.int .i64 p.x, .int .i64 p.y, .int .i64 p.z] 23) ∧ b2 = w.heap.size) := ⟨hw1, hb2⟩
  have HS : Hid (LiS w w1 b2 p ra n f) := ⟨hb1, hP, hp.on hb1, hl.on hb1⟩
  have CFl := fun (W : World) (h : LiS w W b2 p ra n f) (v : Bool) (e : Int) (hf : FlO n f v e) => Lib.hid (flat_any ra n rc f W h.pr h.l hrc hrc2 v e hf)
  have CIn := fun (W : World) (h : LiS w W b2 p ra n f) (v : Bool) (e : Int) (hf : InO p n f v e) => Lib.hid (inside_any p ra n rc f W h.pr h.l hrc hrc2 v e hf)
  have CAl := fun (W : World) (h : LiS w W b2 p ra n f) => Lib.hid (rAll_any ra n rc f W h.l hrc hrc2)
  have CVa := fun (W : World) => Lib.hid (rVal_any p W)
  have CRf := fun (W : World) (h : LiS w W b2 p ra n f) (ha : allV n f) (v : Bool) (hv : v = true ↔ FlatQ n f) => Lib.hid (rFlat_any hzero ra n rc f W h.l ha hrc hrc2 v hv)
  have CRi := fun (W : World) (h : LiS w W b2 p ra n f) (ho : p.ok) (ha : allV n f) (v : Bool) (hv : v = true ↔ InQ p n f) => Lib.hid (rIns_any p ra n rc f W ho h.l ha hrc hrc2 v hv)
  clear hzero hp hl hw1 hb2 hb1 hP hnil hrc hrc2
  by_cases hq : (12 < n ∧ n ≤ 20) ∨ 25 < n
  · clear CFl CIn CAl CVa CRf CRi
    by_cases h25 : 25 < n
    · have d12 : decide ((12 : Int) < (n : Int)) = true := decide_eq_true (by omega)
      have d20 : decide ((n : Int) ≤ 20) = false := decide_eq_false (by omega)
      have d25 : decide ((25 : Int) < (n : Int)) = true := decide_eq_true (by omega)
      clear hq h25
      go_enter Tryd.func3, Tryd.ntmps3
      go_upto_region 1 with fail
      rw [← HN.out.1, ← HN.out.2]
      clear HN
      go_wp2_with (first
        | (go_at_call 9; (with_reducible refine ((CA _).out.mono ?_)); rintro e w2 ⟨rfl, hb2⟩; replace HS := Lib.hid (HS.out.on hb2); clear hb2; have p0 := HS.out.P.c0; have p1 := HS.out.P.c1; have p2 := HS.out.P.c2))
      all_goals first
        | (go_ret; exact ⟨rfl, HS.out.st⟩)
        | (exfalso; rename_i h1 h2; have h3 : some undef = some (Value.bool _) := h1; simp [undef] at h3; done)
        | (exfalso; rename_i h1; have h3 : some undef = some (Value.bool _) := h1; simp [undef] at h3; done)
    · have d12 : decide ((12 : Int) < (n : Int)) = true := decide_eq_true (by omega)
      have d20 : decide ((n : Int) ≤ 20) = true := decide_eq_true (by omega)
      clear hq h25
      go_enter Tryd.func3, Tryd.ntmps3
      go_upto_region 1 with fail
      rw [← HN.out.1, ← HN.out.2]
      clear HN
      go_wp2_with (first
        | (go_at_call 9; (with_reducible refine ((CA _).out.mono ?_)); rintro e w2 ⟨rfl, hb2⟩; replace HS := Lib.hid (HS.out.on hb2); clear hb2; have p0 := HS.out.P.c0; have p1 := HS.out.P.c1; have p2 := HS.out.P.c2))
      all_goals first
        | (go_ret; exact ⟨rfl, HS.out.st⟩)
        | (exfalso; rename_i h1 h2; have h3 : some undef = some (Value.bool _) := h1; simp [undef] at h3; done)
        | (exfalso; rename_i h1; have h3 : some undef = some (Value.bool _) := h1; simp [undef] at h3; done)
  have hn : n ≤ 12 ∨ (20 < n ∧ n ≤ 25) := by omega
  have d25 : decide ((25 : Int) < (n : Int)) = false := decide_eq_false (by omega)
  clear hq
  obtain ⟨va, ea, hfa⟩ := flO_ex n f
  obtain ⟨vb, eb, hfb⟩ := inO_ex p n f
  have C1 := fun W h => CFl W h va ea hfa
  have C2 := fun W h => CIn W h vb eb hfb
  clear CFl CIn
  by_cases hall : allV n f
  · rw [show decide (allV n f) = true from decide_eq_true hall] at CAl
    by_cases h20 : 20 < n
    · have d12 : decide ((12 : Int) < (n : Int)) = true := decide_eq_true (by omega)
      have d20 : decide ((n : Int) ≤ 20) = false := decide_eq_false (by omega)
      have d20' : decide ((20 : Int) < (n : Int)) = true := decide_eq_true (by omega)
      obtain ⟨rfl, rfl⟩ : va = false ∧ ea = 4 := by
        rcases hfa with ⟨h, _⟩ | ⟨_, _, h1, h2⟩ | ⟨_, h, _⟩
        · exact absurd hall h
        · exact ⟨h1, h2⟩
        · omega
      by_cases hok : p.ok
      · obtain ⟨rfl, rfl⟩ : vb = false ∧ eb = 4 := by
          rcases hfb with ⟨h, _⟩ | ⟨_, _, _, h1, h2⟩ | ⟨_, _, h, _⟩
          · rcases h with h | h
            · exact absurd hok h
            · exact absurd hall h
          · exact ⟨h1, h2⟩
          · omega
        rw [show vdB p = true from decide_eq_true hok] at CVa
        clear CRf CRi hfa hfb hall hok hn h20
        go_enter Tryd.func3, Tryd.ntmps3
        go_upto_region 1 with fail
        rw [← HN.out.1, ← HN.out.2]
        clear HN
        go_wp2_with (first
          | (go_at_call 9; (with_reducible refine ((CA _).out.mono ?_)); rintro e w2 ⟨rfl, hb2⟩; replace HS := Lib.hid (HS.out.on hb2); clear hb2; have p0 := HS.out.P.c0; have p1 := HS.out.P.c1; have p2 := HS.out.P.c2)
          | (go_at_call 10; (with_reducible refine ((C1 _ HS.out).out.mono ?_)); rintro e w2 ⟨rfl, hb2⟩; replace HS := Lib.hid (HS.out.on hb2); clear hb2; have p0 := HS.out.P.c0; have p1 := HS.out.P.c1; have p2 := HS.out.P.c2)
          | (go_at_call 11; (with_reducible refine ((C2 _ HS.out).out.mono ?_)); rintro e w2 ⟨rfl, hb2⟩; replace HS := Lib.hid (HS.out.on hb2); clear hb2; have p0 := HS.out.P.c0; have p1 := HS.out.P.c1; have p2 := HS.out.P.c2)
          | (go_at_call 12; (with_reducible refine ((CAl _ HS.out).out.mono ?_)); rintro e w2 ⟨rfl, hb2⟩; replace HS := Lib.hid (HS.out.on hb2); clear hb2; have p0 := HS.out.P.c0; have p1 := HS.out.P.c1; have p2 := HS.out.P.c2)
          | (go_at_call 14; (with_reducible refine ((CVa _).out.mono ?_)); rintro e w2 ⟨rfl, hb2⟩; replace HS := Lib.hid (HS.out.on hb2); clear hb2; have p0 := HS.out.P.c0; have p1 := HS.out.P.c1; have p2 := HS.out.P.c2))
        all_goals first
          | (go_ret; exact ⟨rfl, HS.out.st⟩)
          | (exfalso; rename_i h1 h2; have h3 : some undef = some (Value.bool _) := h1; simp [undef] at h3; done)
          | (exfalso; rename_i h1; have h3 : some undef = some (Value.bool _) := h1; simp [undef] at h3; done)
      · obtain ⟨rfl, rfl⟩ : vb = false ∧ eb = 1 := by
          rcases hfb with ⟨_, h1, h2⟩ | ⟨h, _⟩ | ⟨h, _⟩
          · exact ⟨h1, h2⟩
          · exact absurd h hok
          · exact absurd h hok
        rw [show vdB p = false from decide_eq_false hok] at CVa
        clear CRf CRi hfa hfb hall hok hn h20
        go_enter Tryd.func3, Tryd.ntmps3
        go_upto_region 1 with fail
        rw [← HN.out.1, ← HN.out.2]
        clear HN
        go_wp2_with (first
          | (go_at_call 9; (with_reducible refine ((CA _).out.mono ?_)); rintro e w2 ⟨rfl, hb2⟩; replace HS := Lib.hid (HS.out.on hb2); clear hb2; have p0 := HS.out.P.c0; have p1 := HS.out.P.c1; have p2 := HS.out.P.c2)
          | (go_at_call 10; (with_reducible refine ((C1 _ HS.out).out.mono ?_)); rintro e w2 ⟨rfl, hb2⟩; replace HS := Lib.hid (HS.out.on hb2); clear hb2; have p0 := HS.out.P.c0; have p1 := HS.out.P.c1; have p2 := HS.out.P.c2)
          | (go_at_call 11; (with_reducible refine ((C2 _ HS.out).out.mono ?_)); rintro e w2 ⟨rfl, hb2⟩; replace HS := Lib.hid (HS.out.on hb2); clear hb2; have p0 := HS.out.P.c0; have p1 := HS.out.P.c1; have p2 := HS.out.P.c2)
          | (go_at_call 12; (with_reducible refine ((CAl _ HS.out).out.mono ?_)); rintro e w2 ⟨rfl, hb2⟩; replace HS := Lib.hid (HS.out.on hb2); clear hb2; have p0 := HS.out.P.c0; have p1 := HS.out.P.c1; have p2 := HS.out.P.c2)
          | (go_at_call 14; (with_reducible refine ((CVa _).out.mono ?_)); rintro e w2 ⟨rfl, hb2⟩; replace HS := Lib.hid (HS.out.on hb2); clear hb2; have p0 := HS.out.P.c0; have p1 := HS.out.P.c1; have p2 := HS.out.P.c2))
        all_goals first
          | (go_ret; exact ⟨rfl, HS.out.st⟩)
          | (exfalso; rename_i h1 h2; have h3 : some undef = some (Value.bool _) := h1; simp [undef] at h3; done)
          | (exfalso; rename_i h1; have h3 : some undef = some (Value.bool _) := h1; simp [undef] at h3; done)
    · have d12 : decide ((12 : Int) < (n : Int)) = false := decide_eq_false (by omega)
      have d20' : decide ((20 : Int) < (n : Int)) = false := decide_eq_false (by omega)
      obtain ⟨hva, rfl⟩ : (va = true ↔ FlatQ n f) ∧ ea = 0 := by
        rcases hfa with ⟨h, _⟩ | ⟨_, h, _⟩ | ⟨_, _, h1, h2⟩
        · exact absurd hall h
        · omega
        · exact ⟨h1, h2⟩
      have C3 := fun W h => CRf W h hall va hva
      by_cases hok : p.ok
      · obtain ⟨hvb, rfl⟩ : (vb = true ↔ InQ p n f) ∧ eb = 0 := by
          rcases hfb with ⟨h, _⟩ | ⟨_, _, h, _⟩ | ⟨_, _, _, h1, h2⟩
          · rcases h with h | h
            · exact absurd hok h
            · exact absurd hall h
          · omega
          · exact ⟨h1, h2⟩
        have C4 := fun W h => CRi W h hok hall vb hvb
        rw [show vdB p = true from decide_eq_true hok] at CVa
        clear CRf CRi hfa hfb hall hok hn h20 hva hvb
        cases va
        · cases vb
          · go_enter Tryd.func3, Tryd.ntmps3
            go_upto_region 1 with fail
            rw [← HN.out.1, ← HN.out.2]
            clear HN
            go_wp2_with (first
              | (go_at_call 9; (with_reducible refine ((CA _).out.mono ?_)); rintro e w2 ⟨rfl, hb2⟩; replace HS := Lib.hid (HS.out.on hb2); clear hb2; have p0 := HS.out.P.c0; have p1 := HS.out.P.c1; have p2 := HS.out.P.c2)
              | (go_at_call 10; (with_reducible refine ((C1 _ HS.out).out.mono ?_)); rintro e w2 ⟨rfl, hb2⟩; replace HS := Lib.hid (HS.out.on hb2); clear hb2; have p0 := HS.out.P.c0; have p1 := HS.out.P.c1; have p2 := HS.out.P.c2)
              | (go_at_call 11; (with_reducible refine ((C2 _ HS.out).out.mono ?_)); rintro e w2 ⟨rfl, hb2⟩; replace HS := Lib.hid (HS.out.on hb2); clear hb2; have p0 := HS.out.P.c0; have p1 := HS.out.P.c1; have p2 := HS.out.P.c2)
              | (go_at_call 12; (with_reducible refine ((CAl _ HS.out).out.mono ?_)); rintro e w2 ⟨rfl, hb2⟩; replace HS := Lib.hid (HS.out.on hb2); clear hb2; have p0 := HS.out.P.c0; have p1 := HS.out.P.c1; have p2 := HS.out.P.c2)
              | (go_at_call 14; (with_reducible refine ((CVa _).out.mono ?_)); rintro e w2 ⟨rfl, hb2⟩; replace HS := Lib.hid (HS.out.on hb2); clear hb2; have p0 := HS.out.P.c0; have p1 := HS.out.P.c1; have p2 := HS.out.P.c2)
              | (go_at_call 13; (with_reducible refine ((C3 _ HS.out).out.mono ?_)); rintro e w2 ⟨rfl, hb2⟩; replace HS := Lib.hid (HS.out.on hb2); clear hb2; have p0 := HS.out.P.c0; have p1 := HS.out.P.c1; have p2 := HS.out.P.c2)
              | (go_at_call 15; (with_reducible refine ((C4 _ HS.out).out.mono ?_)); rintro e w2 ⟨rfl, hb2⟩; replace HS := Lib.hid (HS.out.on hb2); clear hb2; have p0 := HS.out.P.c0; have p1 := HS.out.P.c1; have p2 := HS.out.P.c2))
            all_goals first
              | (go_ret; exact ⟨rfl, HS.out.st⟩)
              | (exfalso; rename_i h1 h2; have h3 : some undef = some (Value.bool _) := h1; simp [undef] at h3; done)
              | (exfalso; rename_i h1; have h3 : some undef = some (Value.bool _) := h1; simp [undef] at h3; done)
          · go_enter Tryd.func3, Tryd.ntmps3
            go_upto_region 1 with fail
            rw [← HN.out.1, ← HN.out.2]
            clear HN
            go_wp2_with (first
              | (go_at_call 9; (with_reducible refine ((CA _).out.mono ?_)); rintro e w2 ⟨rfl, hb2⟩; replace HS := Lib.hid (HS.out.on hb2); clear hb2; have p0 := HS.out.P.c0; have p1 := HS.out.P.c1; have p2 := HS.out.P.c2)
              | (go_at_call 10; (with_reducible refine ((C1 _ HS.out).out.mono ?_)); rintro e w2 ⟨rfl, hb2⟩; replace HS := Lib.hid (HS.out.on hb2); clear hb2; have p0 := HS.out.P.c0; have p1 := HS.out.P.c1; have p2 := HS.out.P.c2)
              | (go_at_call 11; (with_reducible refine ((C2 _ HS.out).out.mono ?_)); rintro e w2 ⟨rfl, hb2⟩; replace HS := Lib.hid (HS.out.on hb2); clear hb2; have p0 := HS.out.P.c0; have p1 := HS.out.P.c1; have p2 := HS.out.P.c2)
              | (go_at_call 12; (with_reducible refine ((CAl _ HS.out).out.mono ?_)); rintro e w2 ⟨rfl, hb2⟩; replace HS := Lib.hid (HS.out.on hb2); clear hb2; have p0 := HS.out.P.c0; have p1 := HS.out.P.c1; have p2 := HS.out.P.c2)
              | (go_at_call 14; (with_reducible refine ((CVa _).out.mono ?_)); rintro e w2 ⟨rfl, hb2⟩; replace HS := Lib.hid (HS.out.on hb2); clear hb2; have p0 := HS.out.P.c0; have p1 := HS.out.P.c1; have p2 := HS.out.P.c2)
              | (go_at_call 13; (with_reducible refine ((C3 _ HS.out).out.mono ?_)); rintro e w2 ⟨rfl, hb2⟩; replace HS := Lib.hid (HS.out.on hb2); clear hb2; have p0 := HS.out.P.c0; have p1 := HS.out.P.c1; have p2 := HS.out.P.c2)
              | (go_at_call 15; (with_reducible refine ((C4 _ HS.out).out.mono ?_)); rintro e w2 ⟨rfl, hb2⟩; replace HS := Lib.hid (HS.out.on hb2); clear hb2; have p0 := HS.out.P.c0; have p1 := HS.out.P.c1; have p2 := HS.out.P.c2))
            all_goals first
              | (go_ret; exact ⟨rfl, HS.out.st⟩)
              | (exfalso; rename_i h1 h2; have h3 : some undef = some (Value.bool _) := h1; simp [undef] at h3; done)
              | (exfalso; rename_i h1; have h3 : some undef = some (Value.bool _) := h1; simp [undef] at h3; done)
        · cases vb
          · go_enter Tryd.func3, Tryd.ntmps3
            go_upto_region 1 with fail
            rw [← HN.out.1, ← HN.out.2]
            clear HN
            go_wp2_with (first
              | (go_at_call 9; (with_reducible refine ((CA _).out.mono ?_)); rintro e w2 ⟨rfl, hb2⟩; replace HS := Lib.hid (HS.out.on hb2); clear hb2; have p0 := HS.out.P.c0; have p1 := HS.out.P.c1; have p2 := HS.out.P.c2)
              | (go_at_call 10; (with_reducible refine ((C1 _ HS.out).out.mono ?_)); rintro e w2 ⟨rfl, hb2⟩; replace HS := Lib.hid (HS.out.on hb2); clear hb2; have p0 := HS.out.P.c0; have p1 := HS.out.P.c1; have p2 := HS.out.P.c2)
              | (go_at_call 11; (with_reducible refine ((C2 _ HS.out).out.mono ?_)); rintro e w2 ⟨rfl, hb2⟩; replace HS := Lib.hid (HS.out.on hb2); clear hb2; have p0 := HS.out.P.c0; have p1 := HS.out.P.c1; have p2 := HS.out.P.c2)
              | (go_at_call 12; (with_reducible refine ((CAl _ HS.out).out.mono ?_)); rintro e w2 ⟨rfl, hb2⟩; replace HS := Lib.hid (HS.out.on hb2); clear hb2; have p0 := HS.out.P.c0; have p1 := HS.out.P.c1; have p2 := HS.out.P.c2)
              | (go_at_call 14; (with_reducible refine ((CVa _).out.mono ?_)); rintro e w2 ⟨rfl, hb2⟩; replace HS := Lib.hid (HS.out.on hb2); clear hb2; have p0 := HS.out.P.c0; have p1 := HS.out.P.c1; have p2 := HS.out.P.c2)
              | (go_at_call 13; (with_reducible refine ((C3 _ HS.out).out.mono ?_)); rintro e w2 ⟨rfl, hb2⟩; replace HS := Lib.hid (HS.out.on hb2); clear hb2; have p0 := HS.out.P.c0; have p1 := HS.out.P.c1; have p2 := HS.out.P.c2)
              | (go_at_call 15; (with_reducible refine ((C4 _ HS.out).out.mono ?_)); rintro e w2 ⟨rfl, hb2⟩; replace HS := Lib.hid (HS.out.on hb2); clear hb2; have p0 := HS.out.P.c0; have p1 := HS.out.P.c1; have p2 := HS.out.P.c2))
            all_goals first
              | (go_ret; exact ⟨rfl, HS.out.st⟩)
              | (exfalso; rename_i h1 h2; have h3 : some undef = some (Value.bool _) := h1; simp [undef] at h3; done)
              | (exfalso; rename_i h1; have h3 : some undef = some (Value.bool _) := h1; simp [undef] at h3; done)
          · go_enter Tryd.func3, Tryd.ntmps3
            go_upto_region 1 with fail
            rw [← HN.out.1, ← HN.out.2]
            clear HN
            go_wp2_with (first
              | (go_at_call 9; (with_reducible refine ((CA _).out.mono ?_)); rintro e w2 ⟨rfl, hb2⟩; replace HS := Lib.hid (HS.out.on hb2); clear hb2; have p0 := HS.out.P.c0; have p1 := HS.out.P.c1; have p2 := HS.out.P.c2)
              | (go_at_call 10; (with_reducible refine ((C1 _ HS.out).out.mono ?_)); rintro e w2 ⟨rfl, hb2⟩; replace HS := Lib.hid (HS.out.on hb2); clear hb2; have p0 := HS.out.P.c0; have p1 := HS.out.P.c1; have p2 := HS.out.P.c2)
              | (go_at_call 11; (with_reducible refine ((C2 _ HS.out).out.mono ?_)); rintro e w2 ⟨rfl, hb2⟩; replace HS := Lib.hid (HS.out.on hb2); clear hb2; have p0 := HS.out.P.c0; have p1 := HS.out.P.c1; have p2 := HS.out.P.c2)
              | (go_at_call 12; (with_reducible refine ((CAl _ HS.out).out.mono ?_)); rintro e w2 ⟨rfl, hb2⟩; replace HS := Lib.hid (HS.out.on hb2); clear hb2; have p0 := HS.out.P.c0; have p1 := HS.out.P.c1; have p2 := HS.out.P.c2)
              | (go_at_call 14; (with_reducible refine ((CVa _).out.mono ?_)); rintro e w2 ⟨rfl, hb2⟩; replace HS := Lib.hid (HS.out.on hb2); clear hb2; have p0 := HS.out.P.c0; have p1 := HS.out.P.c1; have p2 := HS.out.P.c2)
              | (go_at_call 13; (with_reducible refine ((C3 _ HS.out).out.mono ?_)); rintro e w2 ⟨rfl, hb2⟩; replace HS := Lib.hid (HS.out.on hb2); clear hb2; have p0 := HS.out.P.c0; have p1 := HS.out.P.c1; have p2 := HS.out.P.c2)
              | (go_at_call 15; (with_reducible refine ((C4 _ HS.out).out.mono ?_)); rintro e w2 ⟨rfl, hb2⟩; replace HS := Lib.hid (HS.out.on hb2); clear hb2; have p0 := HS.out.P.c0; have p1 := HS.out.P.c1; have p2 := HS.out.P.c2))
            all_goals first
              | (go_ret; exact ⟨rfl, HS.out.st⟩)
              | (exfalso; rename_i h1 h2; have h3 : some undef = some (Value.bool _) := h1; simp [undef] at h3; done)
              | (exfalso; rename_i h1; have h3 : some undef = some (Value.bool _) := h1; simp [undef] at h3; done)
      · obtain ⟨rfl, rfl⟩ : vb = false ∧ eb = 1 := by
          rcases hfb with ⟨_, h1, h2⟩ | ⟨h, _⟩ | ⟨h, _⟩
          · exact ⟨h1, h2⟩
          · exact absurd h hok
          · exact absurd h hok
        rw [show vdB p = false from decide_eq_false hok] at CVa
        have C4 : True := trivial
        clear CRf CRi hfa hfb hall hok hn h20 hva
        cases va
        · go_enter Tryd.func3, Tryd.ntmps3
          go_upto_region 1 with fail
          rw [← HN.out.1, ← HN.out.2]
          clear HN
          go_wp2_with (first
            | (go_at_call 9; (with_reducible refine ((CA _).out.mono ?_)); rintro e w2 ⟨rfl, hb2⟩; replace HS := Lib.hid (HS.out.on hb2); clear hb2; have p0 := HS.out.P.c0; have p1 := HS.out.P.c1; have p2 := HS.out.P.c2)
            | (go_at_call 10; (with_reducible refine ((C1 _ HS.out).out.mono ?_)); rintro e w2 ⟨rfl, hb2⟩; replace HS := Lib.hid (HS.out.on hb2); clear hb2; have p0 := HS.out.P.c0; have p1 := HS.out.P.c1; have p2 := HS.out.P.c2)
            | (go_at_call 11; (with_reducible refine ((C2 _ HS.out).out.mono ?_)); rintro e w2 ⟨rfl, hb2⟩; replace HS := Lib.hid (HS.out.on hb2); clear hb2; have p0 := HS.out.P.c0; have p1 := HS.out.P.c1; have p2 := HS.out.P.c2)
            | (go_at_call 12; (with_reducible refine ((CAl _ HS.out).out.mono ?_)); rintro e w2 ⟨rfl, hb2⟩; replace HS := Lib.hid (HS.out.on hb2); clear hb2; have p0 := HS.out.P.c0; have p1 := HS.out.P.c1; have p2 := HS.out.P.c2)
            | (go_at_call 14; (with_reducible refine ((CVa _).out.mono ?_)); rintro e w2 ⟨rfl, hb2⟩; replace HS := Lib.hid (HS.out.on hb2); clear hb2; have p0 := HS.out.P.c0; have p1 := HS.out.P.c1; have p2 := HS.out.P.c2)
            | (go_at_call 13; (with_reducible refine ((C3 _ HS.out).out.mono ?_)); rintro e w2 ⟨rfl, hb2⟩; replace HS := Lib.hid (HS.out.on hb2); clear hb2; have p0 := HS.out.P.c0; have p1 := HS.out.P.c1; have p2 := HS.out.P.c2))
          all_goals first
            | (go_ret; exact ⟨rfl, HS.out.st⟩)
            | (exfalso; rename_i h1 h2; have h3 : some undef = some (Value.bool _) := h1; simp [undef] at h3; done)
            | (exfalso; rename_i h1; have h3 : some undef = some (Value.bool _) := h1; simp [undef] at h3; done)
        · go_enter Tryd.func3, Tryd.ntmps3
          go_upto_region 1 with fail
          rw [← HN.out.1, ← HN.out.2]
          clear HN
          go_wp2_with (first
            | (go_at_call 9; (with_reducible refine ((CA _).out.mono ?_)); rintro e w2 ⟨rfl, hb2⟩; replace HS := Lib.hid (HS.out.on hb2); clear hb2; have p0 := HS.out.P.c0; have p1 := HS.out.P.c1; have p2 := HS.out.P.c2)
            | (go_at_call 10; (with_reducible refine ((C1 _ HS.out).out.mono ?_)); rintro e w2 ⟨rfl, hb2⟩; replace HS := Lib.hid (HS.out.on hb2); clear hb2; have p0 := HS.out.P.c0; have p1 := HS.out.P.c1; have p2 := HS.out.P.c2)
            | (go_at_call 11; (with_reducible refine ((C2 _ HS.out).out.mono ?_)); rintro e w2 ⟨rfl, hb2⟩; replace HS := Lib.hid (HS.out.on hb2); clear hb2; have p0 := HS.out.P.c0; have p1 := HS.out.P.c1; have p2 := HS.out.P.c2)
            | (go_at_call 12; (with_reducible refine ((CAl _ HS.out).out.mono ?_)); rintro e w2 ⟨rfl, hb2⟩; replace HS := Lib.hid (HS.out.on hb2); clear hb2; have p0 := HS.out.P.c0; have p1 := HS.out.P.c1; have p2 := HS.out.P.c2)
            | (go_at_call 14; (with_reducible refine ((CVa _).out.mono ?_)); rintro e w2 ⟨rfl, hb2⟩; replace HS := Lib.hid (HS.out.on hb2); clear hb2; have p0 := HS.out.P.c0; have p1 := HS.out.P.c1; have p2 := HS.out.P.c2)
            | (go_at_call 13; (with_reducible refine ((C3 _ HS.out).out.mono ?_)); rintro e w2 ⟨rfl, hb2⟩; replace HS := Lib.hid (HS.out.on hb2); clear hb2; have p0 := HS.out.P.c0; have p1 := HS.out.P.c1; have p2 := HS.out.P.c2))
          all_goals first
            | (go_ret; exact ⟨rfl, HS.out.st⟩)
            | (exfalso; rename_i h1 h2; have h3 : some undef = some (Value.bool _) := h1; simp [undef] at h3; done)
            | (exfalso; rename_i h1; have h3 : some undef = some (Value.bool _) := h1; simp [undef] at h3; done)
  · rw [show decide (allV n f) = false from decide_eq_false hall] at CAl
    obtain ⟨rfl, rfl⟩ : va = false ∧ ea = 1 := by
      rcases hfa with ⟨_, h1, h2⟩ | ⟨h, _⟩ | ⟨h, _⟩
      · exact ⟨h1, h2⟩
      · exact absurd h hall
      · exact absurd h hall
    obtain ⟨rfl, rfl⟩ : vb = false ∧ eb = 1 := by
      rcases hfb with ⟨_, h1, h2⟩ | ⟨_, h, _⟩ | ⟨_, h, _⟩
      · exact ⟨h1, h2⟩
      · exact absurd h hall
      · exact absurd h hall
    clear CRf CRi hfa hfb
    obtain ⟨pk, hpk⟩ : ∃ t, vdB p = t := ⟨_, rfl⟩
    rw [hpk] at CVa
    clear hpk hall
    rcases hn with hn | hn
    · have d12 : decide ((12 : Int) < (n : Int)) = false := decide_eq_false (by omega)
      clear hn
      cases pk
      · go_enter Tryd.func3, Tryd.ntmps3
        go_upto_region 1 with fail
        rw [← HN.out.1, ← HN.out.2]
        clear HN
        go_wp2_with (first
          | (go_at_call 9; (with_reducible refine ((CA _).out.mono ?_)); rintro e w2 ⟨rfl, hb2⟩; replace HS := Lib.hid (HS.out.on hb2); clear hb2; have p0 := HS.out.P.c0; have p1 := HS.out.P.c1; have p2 := HS.out.P.c2)
          | (go_at_call 10; (with_reducible refine ((C1 _ HS.out).out.mono ?_)); rintro e w2 ⟨rfl, hb2⟩; replace HS := Lib.hid (HS.out.on hb2); clear hb2; have p0 := HS.out.P.c0; have p1 := HS.out.P.c1; have p2 := HS.out.P.c2)
          | (go_at_call 11; (with_reducible refine ((C2 _ HS.out).out.mono ?_)); rintro e w2 ⟨rfl, hb2⟩; replace HS := Lib.hid (HS.out.on hb2); clear hb2; have p0 := HS.out.P.c0; have p1 := HS.out.P.c1; have p2 := HS.out.P.c2)
          | (go_at_call 12; (with_reducible refine ((CAl _ HS.out).out.mono ?_)); rintro e w2 ⟨rfl, hb2⟩; replace HS := Lib.hid (HS.out.on hb2); clear hb2; have p0 := HS.out.P.c0; have p1 := HS.out.P.c1; have p2 := HS.out.P.c2)
          | (go_at_call 14; (with_reducible refine ((CVa _).out.mono ?_)); rintro e w2 ⟨rfl, hb2⟩; replace HS := Lib.hid (HS.out.on hb2); clear hb2; have p0 := HS.out.P.c0; have p1 := HS.out.P.c1; have p2 := HS.out.P.c2))
        all_goals first
          | (go_ret; exact ⟨rfl, HS.out.st⟩)
          | (exfalso; rename_i h1 h2; have h3 : some undef = some (Value.bool _) := h1; simp [undef] at h3; done)
          | (exfalso; rename_i h1; have h3 : some undef = some (Value.bool _) := h1; simp [undef] at h3; done)
      · go_enter Tryd.func3, Tryd.ntmps3
        go_upto_region 1 with fail
        rw [← HN.out.1, ← HN.out.2]
        clear HN
        go_wp2_with (first
          | (go_at_call 9; (with_reducible refine ((CA _).out.mono ?_)); rintro e w2 ⟨rfl, hb2⟩; replace HS := Lib.hid (HS.out.on hb2); clear hb2; have p0 := HS.out.P.c0; have p1 := HS.out.P.c1; have p2 := HS.out.P.c2)
          | (go_at_call 10; (with_reducible refine ((C1 _ HS.out).out.mono ?_)); rintro e w2 ⟨rfl, hb2⟩; replace HS := Lib.hid (HS.out.on hb2); clear hb2; have p0 := HS.out.P.c0; have p1 := HS.out.P.c1; have p2 := HS.out.P.c2)
          | (go_at_call 11; (with_reducible refine ((C2 _ HS.out).out.mono ?_)); rintro e w2 ⟨rfl, hb2⟩; replace HS := Lib.hid (HS.out.on hb2); clear hb2; have p0 := HS.out.P.c0; have p1 := HS.out.P.c1; have p2 := HS.out.P.c2)
          | (go_at_call 12; (with_reducible refine ((CAl _ HS.out).out.mono ?_)); rintro e w2 ⟨rfl, hb2⟩; replace HS := Lib.hid (HS.out.on hb2); clear hb2; have p0 := HS.out.P.c0; have p1 := HS.out.P.c1; have p2 := HS.out.P.c2)
          | (go_at_call 14; (with_reducible refine ((CVa _).out.mono ?_)); rintro e w2 ⟨rfl, hb2⟩; replace HS := Lib.hid (HS.out.on hb2); clear hb2; have p0 := HS.out.P.c0; have p1 := HS.out.P.c1; have p2 := HS.out.P.c2))
        all_goals first
          | (go_ret; exact ⟨rfl, HS.out.st⟩)
          | (exfalso; rename_i h1 h2; have h3 : some undef = some (Value.bool _) := h1; simp [undef] at h3; done)
          | (exfalso; rename_i h1; have h3 : some undef = some (Value.bool _) := h1; simp [undef] at h3; done)
    · have d12 : decide ((12 : Int) < (n : Int)) = true := decide_eq_true (by omega)
      have d20 : decide ((n : Int) ≤ 20) = false := decide_eq_false (by omega)
      clear hn
      cases pk
      · go_enter Tryd.func3, Tryd.ntmps3
        go_upto_region 1 with fail
        rw [← HN.out.1, ← HN.out.2]
        clear HN
        go_wp2_with (first
          | (go_at_call 9; (with_reducible refine ((CA _).out.mono ?_)); rintro e w2 ⟨rfl, hb2⟩; replace HS := Lib.hid (HS.out.on hb2); clear hb2; have p0 := HS.out.P.c0; have p1 := HS.out.P.c1; have p2 := HS.out.P.c2)
          | (go_at_call 10; (with_reducible refine ((C1 _ HS.out).out.mono ?_)); rintro e w2 ⟨rfl, hb2⟩; replace HS := Lib.hid (HS.out.on hb2); clear hb2; have p0 := HS.out.P.c0; have p1 := HS.out.P.c1; have p2 := HS.out.P.c2)
          | (go_at_call 11; (with_reducible refine ((C2 _ HS.out).out.mono ?_)); rintro e w2 ⟨rfl, hb2⟩; replace HS := Lib.hid (HS.out.on hb2); clear hb2; have p0 := HS.out.P.c0; have p1 := HS.out.P.c1; have p2 := HS.out.P.c2)
          | (go_at_call 12; (with_reducible refine ((CAl _ HS.out).out.mono ?_)); rintro e w2 ⟨rfl, hb2⟩; replace HS := Lib.hid (HS.out.on hb2); clear hb2; have p0 := HS.out.P.c0; have p1 := HS.out.P.c1; have p2 := HS.out.P.c2)
          | (go_at_call 14; (with_reducible refine ((CVa _).out.mono ?_)); rintro e w2 ⟨rfl, hb2⟩; replace HS := Lib.hid (HS.out.on hb2); clear hb2; have p0 := HS.out.P.c0; have p1 := HS.out.P.c1; have p2 := HS.out.P.c2))
        all_goals first
          | (go_ret; exact ⟨rfl, HS.out.st⟩)
          | (exfalso; rename_i h1 h2; have h3 : some undef = some (Value.bool _) := h1; simp [undef] at h3; done)
          | (exfalso; rename_i h1; have h3 : some undef = some (Value.bool _) := h1; simp [undef] at h3; done)
      · go_enter Tryd.func3, Tryd.ntmps3
        go_upto_region 1 with fail
        rw [← HN.out.1, ← HN.out.2]
        clear HN
        go_wp2_with (first
          | (go_at_call 9; (with_reducible refine ((CA _).out.mono ?_)); rintro e w2 ⟨rfl, hb2⟩; replace HS := Lib.hid (HS.out.on hb2); clear hb2; have p0 := HS.out.P.c0; have p1 := HS.out.P.c1; have p2 := HS.out.P.c2)
          | (go_at_call 10; (with_reducible refine ((C1 _ HS.out).out.mono ?_)); rintro e w2 ⟨rfl, hb2⟩; replace HS := Lib.hid (HS.out.on hb2); clear hb2; have p0 := HS.out.P.c0; have p1 := HS.out.P.c1; have p2 := HS.out.P.c2)
          | (go_at_call 11; (with_reducible refine ((C2 _ HS.out).out.mono ?_)); rintro e w2 ⟨rfl, hb2⟩; replace HS := Lib.hid (HS.out.on hb2); clear hb2; have p0 := HS.out.P.c0; have p1 := HS.out.P.c1; have p2 := HS.out.P.c2)
          | (go_at_call 12; (with_reducible refine ((CAl _ HS.out).out.mono ?_)); rintro e w2 ⟨rfl, hb2⟩; replace HS := Lib.hid (HS.out.on hb2); clear hb2; have p0 := HS.out.P.c0; have p1 := HS.out.P.c1; have p2 := HS.out.P.c2)
          | (go_at_call 14; (with_reducible refine ((CVa _).out.mono ?_)); rintro e w2 ⟨rfl, hb2⟩; replace HS := Lib.hid (HS.out.on hb2); clear hb2; have p0 := HS.out.P.c0; have p1 := HS.out.P.c1; have p2 := HS.out.P.c2))
        all_goals first
          | (go_ret; exact ⟨rfl, HS.out.st⟩)
          | (exfalso; rename_i h1 h2; have h3 : some undef = some (Value.bool _) := h1; simp [undef] at h3; done)
          | (exfalso; rename_i h1; have h3 : some undef = some (Value.bool _) := h1; simp [undef] at h3; done)
end Go.Proofs.YtcghjjfpjiacfaaDoor
