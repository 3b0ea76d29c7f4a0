/- Layer 9: triangles. -/
import Derived.Test.YtcghjjfpjiacfaaDoorVF2
import Derived.Test.YtcghjjfpjiacfaaDoorVBtl
namespace Go.Proofs.YtcghjjfpjiacfaaDoor
open Go.ChangeShapes Go.WideShapes Go.ChangeAt Go.RowKit Go.Joins Go.Deep Go.Shelf
set_option linter.unusedVariables false

instance (p a b c : Int) : Decidable (amg p a b c) := by unfold amg; infer_instance
instance (p a b c : Pt) : Decidable (inT p a b c) := by unfold inT; infer_instance
theorem min3 (a b c n : Int) : Lib.minOf ([a, b, c].take 3) ≤ n ↔ a ≤ n ∨ b ≤ n ∨ c ≤ n := by
  show min (min (min a a) b) c ≤ n ↔ _
  omega
theorem max3 (a b c n : Int) : n ≤ Lib.maxOf ([a, b, c].take 3) ↔ n ≤ a ∨ n ≤ b ∨ n ≤ c := by
  show n ≤ max (max (max a a) b) c ↔ _
  omega
set_option maxHeartbeats 4000000 in
theorem among_any (q a b c : Int) (g : Nat) (w : World) (hB : B3 w g a b c) : Calls Tryd.prog 88 #[.int .i64 q, .slice (some ⟨g, 0, none⟩) 3 3] w fun e w' => e = .returned (.bool (decide (amg q a b c))) ∧ w = w' := by
  have hc : ∀ j, j < [a, b, c].length → w.cell? ⟨g, 0 + j, none⟩ = some (.int .i64 ([a, b, c].getD j 0)) := fun j hj => by
    have : j = 0 ∨ j = 1 ∨ j = 2 := by simp at hj; omega
    rcases this with rfl | rfl | rfl
    · exact hB.c0
    · exact hB.c1
    · exact hB.c2
  have CM := Lib.hid (Tryd.slices_Min_int g 0 3 3 [a, b, c] w (by omega) (by simp) (by omega) hc)
  have CX := Lib.hid (Tryd.slices_Max_int g 0 3 3 [a, b, c] w (by omega) (by simp) (by omega) hc)
  have m1 := min3 a b c q
  have m2 := max3 a b c q
  obtain ⟨mn, hmn⟩ : ∃ x, Lib.minOf ([a, b, c].take 3) = x := ⟨_, rfl⟩
  obtain ⟨mx, hmx⟩ : ∃ x, Lib.maxOf ([a, b, c].take 3) = x := ⟨_, rfl⟩
  rw [hmn] at CM m1
  rw [hmx] at CX m2
  have hd : amg q a b c ↔ mn ≤ q ∧ q ≤ mx := by unfold amg; rw [m1, m2]
  obtain ⟨t, ht⟩ : ∃ t, decide (amg q a b c) = t := ⟨_, rfl⟩
  rw [ht]
  clear hB hc m1 m2 hmn hmx
  by_cases h1 : mn ≤ q
  · have d1 : decide (mn ≤ q) = true := decide_eq_true h1
    by_cases h2 : q ≤ mx
    · have d2 : decide (q ≤ mx) = true := decide_eq_true h2
      have HT : Hid (t = true) := by show t = true; rw [← ht]; exact decide_eq_true (hd.2 ⟨h1, h2⟩)
      clear hd ht h1 h2
      go_enter Tryd.func88, Tryd.ntmps88
      go_wp2_with (first
        | (go_at_call 111; (with_reducible refine ((CM.out).mono ?_)); rintro e w2 ⟨rfl, rfl⟩)
        | (go_at_call 112; (with_reducible refine ((CX.out).mono ?_)); rintro e w2 ⟨rfl, rfl⟩))
      go_ret
      exact ⟨by rw [HT.out]; rfl, rfl⟩
    · have d2 : decide (q ≤ mx) = false := decide_eq_false h2
      have HT : Hid (t = false) := by show t = false; rw [← ht]; exact decide_eq_false (fun h => h2 (hd.1 h).2)
      clear hd ht h1 h2
      go_enter Tryd.func88, Tryd.ntmps88
      go_wp2_with (first
        | (go_at_call 111; (with_reducible refine ((CM.out).mono ?_)); rintro e w2 ⟨rfl, rfl⟩)
        | (go_at_call 112; (with_reducible refine ((CX.out).mono ?_)); rintro e w2 ⟨rfl, rfl⟩))
      go_ret
      exact ⟨by rw [HT.out]; rfl, rfl⟩
  · have d1 : decide (mn ≤ q) = false := decide_eq_false h1
    have HT : Hid (t = false) := by show t = false; rw [← ht]; exact decide_eq_false (fun h => h1 (hd.1 h).1)
    clear hd ht h1
    go_enter Tryd.func88, Tryd.ntmps88
    go_wp2_with (go_at_call 111; (with_reducible refine ((CM.out).mono ?_)); rintro e w2 ⟨rfl, rfl⟩)
    go_ret
    exact ⟨by rw [HT.out]; rfl, rfl⟩
theorem amongN_any (q a b c : Int) (w : World) : Calls Tryd.prog 88 #[.int .i64 q, .slice (some ⟨w.heap.size, 0, none⟩) 3 3] (w.alloc (Obj.cells #[.int .i64 a, .int .i64 b, .int .i64 c] 3)) fun e w' => e = .returned (.bool (decide (amg q a b c))) ∧ Below w.heap.size w w' :=
  (among_any q a b c w.heap.size _ (B3.new w a b c 3)).mono fun e w' ⟨h1, h2⟩ => ⟨h1, by rw [← h2]; exact below_alloc _ _⟩
/-- A block of three points. -/
structure C9 (W : World) (b : Nat) (c : Nat → Pt) : Prop where
  lt : b < W.heap.size
  c : ∀ k, k < 3 → W.cell? ⟨b, k * 3, none⟩ = some (.int .i64 (c k).x) ∧ W.cell? ⟨b, k * 3 + 1, none⟩ = some (.int .i64 (c k).y) ∧ W.cell? ⟨b, k * 3 + 2, none⟩ = some (.int .i64 (c k).z)
theorem C9.on {W W2 : World} {b : Nat} {c : Nat → Pt} (h : C9 W b c) (hb : Below W.heap.size W W2) : C9 W2 b c :=
  ⟨Nat.lt_of_lt_of_le h.lt hb.size, fun k hk => ⟨(hb.cell (p := ⟨b, k * 3, none⟩) h.lt).trans (h.c k hk).1, (hb.cell (p := ⟨b, k * 3 + 1, none⟩) h.lt).trans (h.c k hk).2.1, (hb.cell (p := ⟨b, k * 3 + 2, none⟩) h.lt).trans (h.c k hk).2.2⟩⟩
theorem C9.new (W : World) (c : Nat → Pt) (t : TypeId) : C9 (W.alloc (Obj.cells #[.int .i64 (c 0).x, .int .i64 (c 0).y, .int .i64 (c 0).z, .int .i64 (c 1).x, .int .i64 (c 1).y, .int .i64 (c 1).z, .int .i64 (c 2).x, .int .i64 (c 2).y, .int .i64 (c 2).z] t)) W.heap.size c :=
  ⟨by simp, fun k hk => by
    have : k = 0 ∨ k = 1 ∨ k = 2 := by omega
    rcases this with rfl | rfl | rfl <;> exact ⟨by simp [go_sem], by simp [go_sem], by simp [go_sem]⟩⟩
structure TrS (w W : World) (b2 b3 : Nat) (p : Pt) (c : Nat → Pt) : Prop where
  st : Below w.heap.size w W
  P : B3 W b2 p.x p.y p.z
  C : C9 W b3 c
theorem TrS.on {w W W2 : World} {b2 b3 : Nat} {p : Pt} {c : Nat → Pt} (h : TrS w W b2 b3 p c) (hb : Below W.heap.size W W2) : TrS w W2 b2 b3 p c := ⟨below_on h.st hb, h.P.on hb, h.C.on hb⟩
theorem tri_bool (res lb rb : Bool) (X Y : Prop) [Decidable X] [Decidable Y] (h : res = true ↔ ¬ (lb = true ∧ rb = true) ∧ X ∧ Y) : res = (!(lb && rb) && (decide X && decide Y)) := by
  cases lb <;> cases rb <;> by_cases h2 : X <;> by_cases h3 : Y <;> cases res <;> simp_all
def BtP (b : Bool) (P : Prop) : Prop := b = true ↔ P
def tnS (p : Pt) (c : Nat → Pt) (j : Nat) : Int := tnI (c (ax0 j)) (c (ax1 j)) p
structure Vt5R (b2 b3 b8 p0 p1 : Nat) (p x y : Pt) (sg : Int) (Wc : World) (L : Nat → Bool) (v : Nat → Value) (W : World) : Prop where
  st : Below Wc.heap.size Wc W
  w1 : Had L 1 (∀ j ∈ [0], L j = true)
  w2 : Had L 2 (∀ j ∈ [1], L j = true)
  w3 : Had L 3 (∀ j ∈ [2], L j = true)
  w5 : Had L 5 (∀ j ∈ [4], L j = true)
  w6 : Had L 6 (∀ j ∈ [5], L j = true)
  w7 : Had L 7 (∀ j ∈ [6], L j = true)
  w9 : Had L 9 (∀ j ∈ [3, 7, 8], L j = true)
  f0 : Had L 0 (v 16 = .pointer (some ⟨b8, 0, none⟩))
  f1 : Had L 1 (v 17 = .int .i64 (p0 : Int))
  f2 : Had L 2 (v 18 = .pointer (some ⟨b3, p0 * 3, none⟩))
  f3 : Had L 3 (v 19 = .agg #[.int .i64 x.x, .int .i64 x.y, .int .i64 x.z])
  f4 : Had L 4 (v 20 = .pointer (some ⟨b8, 1, none⟩))
  f5 : Had L 5 (v 21 = .int .i64 (p1 : Int))
  f6 : Had L 6 (v 22 = .pointer (some ⟨b3, p1 * 3, none⟩))
  f7 : Had L 7 (v 23 = .agg #[.int .i64 y.x, .int .i64 y.y, .int .i64 y.z])
  f8 : Had L 8 (v 24 = .agg #[.int .i64 p.x, .int .i64 p.y, .int .i64 p.z])
  f9 : Had L 9 (v 25 = .int .i64 sg)
structure Vt11R (b3 : Nat) (a b d : Pt) (Wc : World) (L : Nat → Bool) (v : Nat → Value) (g : Nat → Nat) (W : World) : Prop where
  st : Below Wc.heap.size Wc W
  b6 : Had L 6 (Wc.heap.size ≤ g 6 ∧ g 6 < W.heap.size)
  z6 : Had L 6 (L 9 = false → CB W (g 6) [.int .i64 0, .int .i64 0, .int .i64 0])
  y9 : Had L 9 (CB W (g 6) [.int .i64 a.x, .int .i64 a.y, .int .i64 a.z])
  b7 : Had L 7 (Wc.heap.size ≤ g 7 ∧ g 7 < W.heap.size)
  z7 : Had L 7 (L 10 = false → CB W (g 7) [.int .i64 0, .int .i64 0, .int .i64 0])
  y10 : Had L 10 (CB W (g 7) [.int .i64 b.x, .int .i64 b.y, .int .i64 b.z])
  b8 : Had L 8 (Wc.heap.size ≤ g 8 ∧ g 8 < W.heap.size)
  z8 : Had L 8 (L 11 = false → CB W (g 8) [.int .i64 0, .int .i64 0, .int .i64 0])
  y11 : Had L 11 (CB W (g 8) [.int .i64 d.x, .int .i64 d.y, .int .i64 d.z])
  n6x7 : Had2 L 6 7 (g 6 ≠ g 7)
  n6x8 : Had2 L 6 8 (g 6 ≠ g 8)
  n7x8 : Had2 L 7 8 (g 7 ≠ g 8)
  w1 : Had L 1 (∀ j ∈ [0], L j = true)
  w3 : Had L 3 (∀ j ∈ [2], L j = true)
  w5 : Had L 5 (∀ j ∈ [4], L j = true)
  w9 : Had L 9 (∀ j ∈ [0, 1, 6, 7, 8], L j = true)
  w10 : Had L 10 (∀ j ∈ [0, 1, 2, 3, 6, 7, 8, 9], L j = true)
  w11 : Had L 11 (∀ j ∈ [0, 1, 2, 3, 4, 5, 6, 7, 8, 9, 10], L j = true)
  f0 : Had L 0 (v 31 = .pointer (some ⟨b3, 0, none⟩))
  f1 : Had L 1 (v 32 = .agg #[.int .i64 a.x, .int .i64 a.y, .int .i64 a.z])
  f2 : Had L 2 (v 33 = .pointer (some ⟨b3, 3, none⟩))
  f3 : Had L 3 (v 34 = .agg #[.int .i64 b.x, .int .i64 b.y, .int .i64 b.z])
  f4 : Had L 4 (v 35 = .pointer (some ⟨b3, 6, none⟩))
  f5 : Had L 5 (v 36 = .agg #[.int .i64 d.x, .int .i64 d.y, .int .i64 d.z])
  f6 : Had L 6 (v 9 = .pointer (some ⟨g 6, 0, none⟩))
  f7 : Had L 7 (v 10 = .pointer (some ⟨g 7, 0, none⟩))
  f8 : Had L 8 (v 11 = .pointer (some ⟨g 8, 0, none⟩))
set_option maxRecDepth 100000 in
set_option maxHeartbeats 16000000 in
theorem tri_any (p : Pt) (c : Nat → Pt) (w : World) (hp : PR w) (hok : p.ok) (hc : ∀ k, k < 3 → (c k).ok) : Calls Tryd.prog 49 #[.agg #[.int .i64 p.x, .int .i64 p.y, .int .i64 p.z], .agg #[.int .i64 (c 0).x, .int .i64 (c 0).y, .int .i64 (c 0).z, .int .i64 (c 1).x, .int .i64 (c 1).y, .int .i64 (c 1).z, .int .i64 (c 2).x, .int .i64 (c 2).y, .int .i64 (c 2).z]] w fun e w' => e = .returned (.bool (decide (inT p (c 0) (c 1) (c 2)))) ∧ Below w.heap.size w w' := by
  obtain ⟨w1, hw1⟩ : ∃ W, W = w.alloc (Obj.cells #[.int .i64 p.x, .int .i64 p.y, .int .i64 p.z] 23) := ⟨_, rfl⟩
  obtain ⟨w2, hw2⟩ : ∃ W, W = w1.alloc (Obj.cells #[.int .i64 (c 0).x, .int .i64 (c 0).y, .int .i64 (c 0).z, .int .i64 (c 1).x, .int .i64 (c 1).y, .int .i64 (c 1).z, .int .i64 (c 2).x, .int .i64 (c 2).y, .int .i64 (c 2).z] 85) := ⟨_, rfl⟩
  have hb1 : Below w.heap.size w w1 := by rw [hw1]; exact below_alloc _ _
  have hb2 : Below w1.heap.size w1 w2 := by rw [hw2]; exact below_alloc _ _
  obtain ⟨b2, hb2'⟩ : ∃ x, x = w.heap.size := ⟨_, rfl⟩
  obtain ⟨b3, hb3'⟩ : ∃ x, x = w.heap.size + 1 := ⟨_, rfl⟩
  have hs1 : w1.heap.size = w.heap.size + 1 := by rw [hw1]; simp
  have hP : B3 w1 b2 p.x p.y p.z := by rw [hw1, hb2']; exact B3.new _ _ _ _ _
  have hC : C9 w2 b3 c := by rw [hw2, hb3', ← hs1]; exact C9.new _ _ _
  have HN : Hid (b2 = w.heap.size ∧ b3 = w.heap.size + 1 ∧ w2 = (w.alloc (Obj.cells #[.int .i64 p.x, .int .i64 p.y, .int .i64 p.z] 23)).alloc (Obj.cells #[.int .i64 (c 0).x, .int .i64 (c 0).y, .int .i64 (c 0).z, .int .i64 (c 1).x, .int .i64 (c 1).y, .int .i64 (c 1).z, .int .i64 (c 2).x, .int .i64 (c 2).y, .int .i64 (c 2).z] 85)) := ⟨hb2', hb3', by rw [hw2, hw1]⟩
  have HS : Hid (TrS w w2 b2 b3 p c) := ⟨below_on hb1 hb2, hP.on hb2, hC⟩
  have hp2 := (hp.on hb1).on hb2
  have g0 := hp2.2.1
  have g1 := hp2.2.2.1
  have g2 := hp2.2.2.2.1
  have g3 := hp2.2.2.2.2.1
  have g4 := hp2.2.2.2.2.2.1
  have g5 := hp2.2.2.2.2.2.2
  have HOK := Lib.hid (And.intro hok hc)
  obtain ⟨res, hres⟩ : ∃ r, decide (inT p (c 0) (c 1) (c 2)) = r := ⟨_, rfl⟩
  rw [hres]
  have HR : Hid (res = true ↔ inT p (c 0) (c 1) (c 2)) := by show res = true ↔ _; rw [← hres]; exact decide_eq_true_iff
  have S0 : Hid (BtP false (∃ j, j < 0 ∧ 0 < tnS p c j) ∧ BtP false (∃ j, j < 0 ∧ tnS p c j < 0)) := ⟨⟨fun h => (by cases h), fun ⟨j, h, _⟩ => (by omega)⟩, ⟨fun h => (by cases h), fun ⟨j, h, _⟩ => (by omega)⟩⟩
  clear hP hC hb1 hb2 hb2' hb3' hw1 hw2 hs1 hp2 hp hok hc hres
  go_enter Tryd.func49, Tryd.ntmps49
  go_upto_region 1 with fail
  rw [← HN.out.2.2, ← HN.out.2.1, ← HN.out.1]
  clear HN
  go_wp2_with fail
  clear g0 g1 g2 g3 g4 g5
  go_loopg [5, 6, 13] 3 (fun mm s5 s6 s13 wx => ∃ (i : Nat) (lb rb : Bool), s13 = .int .i64 (i : Int) ∧ s5 = .bool lb ∧ s6 = .bool rb ∧ mm = 3 - i ∧ i ≤ 3 ∧ Hid (TrS w wx b2 b3 p c) ∧ Hid (BtP lb (∃ j, j < i ∧ 0 < tnS p c j) ∧ BtP rb (∃ j, j < i ∧ tnS p c j < 0)))
  case atStart => exact ⟨0, false, false, rfl, rfl, rfl, rfl, by omega, HS, S0⟩
  case round =>
    clear HS S0
    obtain ⟨i, lb, rb, rfl, rfl, rfl, rfl, hi, HS, HB⟩ := hrel
    rename World => W1
    by_cases hlt : i < 3
    · have wi : IntKind.i64.wrap ((i : Int) + 1) = ((i + 1 : Nat) : Int) := by rw [IntWalk.i64_in _ (by omega)]; omega
      have li : (i : Int) < 3 := by omega
      have ix : ∀ w, (Instr.index 126 (.agg #[.int .i64 1, .int .i64 2, .int .i64 2, .int .i64 0, .int .i64 0, .int .i64 1]) (.int .i64 (i : Int))).run Tryd.prog w = .ok (.agg #[.int .i64 ((ax0 i : Nat) : Int), .int .i64 ((ax1 i : Nat) : Int)]) w := by
        have : i = 0 ∨ i = 1 ∨ i = 2 := by omega
        rcases this with rfl | rfl | rfl <;> exact fun _ => by kernel_rfl
      have o0 : ax0 i < 3 := by unfold ax0; split <;> (try split) <;> omega
      have o1 : ax1 i < 3 := by unfold ax1; split <;> (try split) <;> omega
      have HT : Hid (tnS p c i = tnI (c (ax0 i)) (c (ax1 i)) p) := rfl
      obtain ⟨p0, hp0⟩ : ∃ p, ax0 i = p := ⟨_, rfl⟩
      obtain ⟨p1, hp1⟩ : ∃ p, ax1 i = p := ⟨_, rfl⟩
      rw [hp0] at ix o0 HT
      rw [hp1] at ix o1 HT
      have lp0 : (p0 : Int) < 3 := by omega
      have lp1 : (p1 : Int) < 3 := by omega
      obtain ⟨x, hx⟩ : ∃ x, c p0 = x := ⟨_, rfl⟩
      obtain ⟨y, hy⟩ : ∃ x, c p1 = x := ⟨_, rfl⟩
      have okx := HOK.out.2 p0 o0
      have oky := HOK.out.2 p1 o1
      have cx := HS.out.C.c p0 o0
      have cy := HS.out.C.c p1 o1
      rw [hx] at okx cx HT
      rw [hy] at oky cy HT
      have CT := fun W => Lib.hid (turn_any x y p W okx oky HOK.out.1)
      obtain ⟨tn, htn⟩ : ∃ t, tnI x y p = t := ⟨_, rfl⟩
      rw [htn] at CT HT
      obtain ⟨sg, hsg⟩ : ∃ s, sgI tn = s := ⟨_, rfl⟩
      rw [hsg] at CT
      have HSG : Hid (sgI tn = sg) := hsg
      clear hp0 hp1 hx hy okx oky htn hsg
      go_upto_region 5 with fail
      have bl := below_alloc W1 (Obj.cells #[.int .i64 (p0 : Int), .int .i64 (p1 : Int)] 125)
      have hO8 := OB.new W1 (.int .i64 (p0 : Int)) (.int .i64 (p1 : Int)) 125
      have HS2 := Lib.hid (HS.out.on bl)
      obtain ⟨W2, hW2⟩ : ∃ W, W = W1.alloc (Obj.cells #[.int .i64 (p0 : Int), .int .i64 (p1 : Int)] 125) := ⟨_, rfl⟩
      obtain ⟨b8, hb8⟩ : ∃ x, x = W1.heap.size := ⟨_, rfl⟩
      have LX0 := Lib.hid (And.intro ((bl.cell (p := ⟨b3, p0 * 3, none⟩) HS.out.C.lt).trans cx.1) (Nat.lt_of_lt_of_le HS.out.C.lt bl.size))
      have LX1 := Lib.hid (And.intro ((bl.cell (p := ⟨b3, p0 * 3 + 1, none⟩) HS.out.C.lt).trans cx.2.1) (Nat.lt_of_lt_of_le HS.out.C.lt bl.size))
      have LX2 := Lib.hid (And.intro ((bl.cell (p := ⟨b3, p0 * 3 + 2, none⟩) HS.out.C.lt).trans cx.2.2) (Nat.lt_of_lt_of_le HS.out.C.lt bl.size))
      have LY0 := Lib.hid (And.intro ((bl.cell (p := ⟨b3, p1 * 3, none⟩) HS.out.C.lt).trans cy.1) (Nat.lt_of_lt_of_le HS.out.C.lt bl.size))
      have LY1 := Lib.hid (And.intro ((bl.cell (p := ⟨b3, p1 * 3 + 1, none⟩) HS.out.C.lt).trans cy.2.1) (Nat.lt_of_lt_of_le HS.out.C.lt bl.size))
      have LY2 := Lib.hid (And.intro ((bl.cell (p := ⟨b3, p1 * 3 + 2, none⟩) HS.out.C.lt).trans cy.2.2) (Nat.lt_of_lt_of_le HS.out.C.lt bl.size))
      rw [← hW2] at hO8 HS2 LX0 LX1 LX2 LY0 LY1 LY2
      rw [← hb8] at hO8
      rw [← hW2, ← hb8]
      have LS0 := Lib.hid (And.intro hO8.c0 hO8.lt)
      have LS1 := Lib.hid (And.intro hO8.c1 hO8.lt)
      have LP0 := Lib.hid (And.intro HS2.out.P.c0 HS2.out.P.lt)
      have LP1 := Lib.hid (And.intro HS2.out.P.c1 HS2.out.P.lt)
      have LP2 := Lib.hid (And.intro HS2.out.P.c2 HS2.out.P.lt)
      clear bl hO8 hW2 hb8 HS ix cx cy
      refine wp_region_each (fun L A W => ∃ (v : Nat → Value), A = ⟨#[_, _, _, _, _, _, _, _, _, _, _, _, _, _, _, _, v 16, v 17, v 18, v 19, v 20, v 21, v 22, v 23, v 24, v 25, _, _, _, _, _, _, _, _, _, _, _, _, _, _, _, _, _, _, _, _, _, _, _, _, _, _, _, _, _, _, _, _, _, _, _, _, _, _, _, _], []⟩ ∧ Vt5R b2 b3 b8 p0 p1 p x y sg W2 L v W) (by kernel_rfl) (by kernel_rfl) ⟨fun jz => if jz = 16 then u16 else if jz = 17 then u17 else if jz = 18 then u18 else if jz = 19 then u19 else if jz = 20 then u20 else if jz = 21 then u21 else if jz = 22 then u22 else if jz = 23 then u23 else if jz = 24 then u24 else if jz = 25 then u25 else undef, rfl, ⟨Below.drew (Below.refl _ _), Had.none, Had.none, Had.none, Had.none, Had.none, Had.none, Had.none, Had.none, Had.none, Had.none, Had.none, Had.none, Had.none, Had.none, Had.none, Had.none, Had.none⟩⟩ (rs := [0, 1, 2, 3, 4, 5, 6, 7, 8, 9]) (by kernel_rfl) ?_ ?_
      · refine EachOf.cons [] rfl (by kernel_rfl) ?_ ?_
        · rintro L A W ⟨v, rfl, hR⟩ hi hw K hK
          go_simp
          refine hK.out _ _ ?_
          exact ⟨(fun jz => if jz = 16 then .pointer (some ⟨b8, 0, none⟩) else v jz), rfl, ⟨hR.st, hR.w1.o, hR.w2.o, hR.w3.o, hR.w5.o, hR.w6.o, hR.w7.o, hR.w9.o, (fun _ => rfl), hR.f1.k, hR.f2.k, hR.f3.k, hR.f4.k, hR.f5.k, hR.f6.k, hR.f7.k, hR.f8.k, hR.f9.k⟩⟩
        refine EachOf.cons [0] rfl (by kernel_rfl) ?_ ?_
        · rintro L A W ⟨v, rfl, hR⟩ hi hw K hK
          have e0 := hR.f0 (hw 0 (by simp))
          simp only [e0]
          clear e0
          have q0 := (hR.st.cell (p := ⟨b8, 0, none⟩) LS0.out.2).trans LS0.out.1
          go_simp
          refine hK.out _ _ ?_
          exact ⟨(fun jz => if jz = 16 then .pointer (some ⟨b8, 0, none⟩) else if jz = 17 then .int .i64 (p0 : Int) else v jz), rfl, ⟨hR.st, (fun _ j hj => upd_on (hw j hj)), hR.w2.o, hR.w3.o, hR.w5.o, hR.w6.o, hR.w7.o, hR.w9.o, (fun _ => rfl), (fun _ => rfl), hR.f2.k, hR.f3.k, hR.f4.k, hR.f5.k, hR.f6.k, hR.f7.k, hR.f8.k, hR.f9.k⟩⟩
        refine EachOf.cons [1] rfl (by kernel_rfl) ?_ ?_
        · rintro L A W ⟨v, rfl, hR⟩ hi hw K hK
          have e1 := hR.f1 (hw 1 (by simp))
          simp only [e1]
          clear e1
          go_simp
          refine hK.out _ _ ?_
          exact ⟨(fun jz => if jz = 17 then .int .i64 (p0 : Int) else if jz = 18 then .pointer (some ⟨b3, p0 * 3, none⟩) else v jz), rfl, ⟨hR.st, hR.w1.o, (fun _ j hj => upd_on (hw j hj)), hR.w3.o, hR.w5.o, hR.w6.o, hR.w7.o, hR.w9.o, hR.f0.k, (fun _ => rfl), (fun _ => rfl), hR.f3.k, hR.f4.k, hR.f5.k, hR.f6.k, hR.f7.k, hR.f8.k, hR.f9.k⟩⟩
        refine EachOf.cons [2] rfl (by kernel_rfl) ?_ ?_
        · rintro L A W ⟨v, rfl, hR⟩ hi hw K hK
          have e2 := hR.f2 (hw 2 (by simp))
          simp only [e2]
          clear e2
          have q0 := (hR.st.cell (p := ⟨b3, p0 * 3, none⟩) LX0.out.2).trans LX0.out.1
          have q1 := (hR.st.cell (p := ⟨b3, p0 * 3 + 1, none⟩) LX1.out.2).trans LX1.out.1
          have q2 := (hR.st.cell (p := ⟨b3, p0 * 3 + 2, none⟩) LX2.out.2).trans LX2.out.1
          go_simp
          refine hK.out _ _ ?_
          exact ⟨(fun jz => if jz = 18 then .pointer (some ⟨b3, p0 * 3, none⟩) else if jz = 19 then .agg #[.int .i64 x.x, .int .i64 x.y, .int .i64 x.z] else v jz), rfl, ⟨hR.st, hR.w1.o, hR.w2.o, (fun _ j hj => upd_on (hw j hj)), hR.w5.o, hR.w6.o, hR.w7.o, hR.w9.o, hR.f0.k, hR.f1.k, (fun _ => rfl), (fun _ => rfl), hR.f4.k, hR.f5.k, hR.f6.k, hR.f7.k, hR.f8.k, hR.f9.k⟩⟩
        refine EachOf.cons [] rfl (by kernel_rfl) ?_ ?_
        · rintro L A W ⟨v, rfl, hR⟩ hi hw K hK
          go_simp
          refine hK.out _ _ ?_
          exact ⟨(fun jz => if jz = 20 then .pointer (some ⟨b8, 1, none⟩) else v jz), rfl, ⟨hR.st, hR.w1.o, hR.w2.o, hR.w3.o, hR.w5.o, hR.w6.o, hR.w7.o, hR.w9.o, hR.f0.k, hR.f1.k, hR.f2.k, hR.f3.k, (fun _ => rfl), hR.f5.k, hR.f6.k, hR.f7.k, hR.f8.k, hR.f9.k⟩⟩
        refine EachOf.cons [4] rfl (by kernel_rfl) ?_ ?_
        · rintro L A W ⟨v, rfl, hR⟩ hi hw K hK
          have e4 := hR.f4 (hw 4 (by simp))
          simp only [e4]
          clear e4
          have q0 := (hR.st.cell (p := ⟨b8, 1, none⟩) LS1.out.2).trans LS1.out.1
          go_simp
          refine hK.out _ _ ?_
          exact ⟨(fun jz => if jz = 20 then .pointer (some ⟨b8, 1, none⟩) else if jz = 21 then .int .i64 (p1 : Int) else v jz), rfl, ⟨hR.st, hR.w1.o, hR.w2.o, hR.w3.o, (fun _ j hj => upd_on (hw j hj)), hR.w6.o, hR.w7.o, hR.w9.o, hR.f0.k, hR.f1.k, hR.f2.k, hR.f3.k, (fun _ => rfl), (fun _ => rfl), hR.f6.k, hR.f7.k, hR.f8.k, hR.f9.k⟩⟩
        refine EachOf.cons [5] rfl (by kernel_rfl) ?_ ?_
        · rintro L A W ⟨v, rfl, hR⟩ hi hw K hK
          have e5 := hR.f5 (hw 5 (by simp))
          simp only [e5]
          clear e5
          go_simp
          refine hK.out _ _ ?_
          exact ⟨(fun jz => if jz = 21 then .int .i64 (p1 : Int) else if jz = 22 then .pointer (some ⟨b3, p1 * 3, none⟩) else v jz), rfl, ⟨hR.st, hR.w1.o, hR.w2.o, hR.w3.o, hR.w5.o, (fun _ j hj => upd_on (hw j hj)), hR.w7.o, hR.w9.o, hR.f0.k, hR.f1.k, hR.f2.k, hR.f3.k, hR.f4.k, (fun _ => rfl), (fun _ => rfl), hR.f7.k, hR.f8.k, hR.f9.k⟩⟩
        refine EachOf.cons [6] rfl (by kernel_rfl) ?_ ?_
        · rintro L A W ⟨v, rfl, hR⟩ hi hw K hK
          have e6 := hR.f6 (hw 6 (by simp))
          simp only [e6]
          clear e6
          have q0 := (hR.st.cell (p := ⟨b3, p1 * 3, none⟩) LY0.out.2).trans LY0.out.1
          have q1 := (hR.st.cell (p := ⟨b3, p1 * 3 + 1, none⟩) LY1.out.2).trans LY1.out.1
          have q2 := (hR.st.cell (p := ⟨b3, p1 * 3 + 2, none⟩) LY2.out.2).trans LY2.out.1
          go_simp
          refine hK.out _ _ ?_
          exact ⟨(fun jz => if jz = 22 then .pointer (some ⟨b3, p1 * 3, none⟩) else if jz = 23 then .agg #[.int .i64 y.x, .int .i64 y.y, .int .i64 y.z] else v jz), rfl, ⟨hR.st, hR.w1.o, hR.w2.o, hR.w3.o, hR.w5.o, hR.w6.o, (fun _ j hj => upd_on (hw j hj)), hR.w9.o, hR.f0.k, hR.f1.k, hR.f2.k, hR.f3.k, hR.f4.k, hR.f5.k, (fun _ => rfl), (fun _ => rfl), hR.f8.k, hR.f9.k⟩⟩
        refine EachOf.cons [] rfl (by kernel_rfl) ?_ ?_
        · rintro L A W ⟨v, rfl, hR⟩ hi hw K hK
          have q0 := (hR.st.cell (p := ⟨b2, 0, none⟩) LP0.out.2).trans LP0.out.1
          have q1 := (hR.st.cell (p := ⟨b2, 1, none⟩) LP1.out.2).trans LP1.out.1
          have q2 := (hR.st.cell (p := ⟨b2, 2, none⟩) LP2.out.2).trans LP2.out.1
          go_simp
          refine hK.out _ _ ?_
          exact ⟨(fun jz => if jz = 24 then .agg #[.int .i64 p.x, .int .i64 p.y, .int .i64 p.z] else v jz), rfl, ⟨hR.st, hR.w1.o, hR.w2.o, hR.w3.o, hR.w5.o, hR.w6.o, hR.w7.o, hR.w9.o, hR.f0.k, hR.f1.k, hR.f2.k, hR.f3.k, hR.f4.k, hR.f5.k, hR.f6.k, hR.f7.k, (fun _ => rfl), hR.f9.k⟩⟩
        refine EachOf.cons [3, 7, 8] rfl (by kernel_rfl) ?_ ?_
        · rintro L A W ⟨v, rfl, hR⟩ hi hw K hK
          have e3 := hR.f3 (hw 3 (by simp))
          have e7 := hR.f7 (hw 7 (by simp))
          have e8 := hR.f8 (hw 8 (by simp))
          simp only [e3, e7, e8]
          clear e3 e7 e8
          go_simp
          go_at_call 87
          (with_reducible refine ((CT _).out).mono ?_)
          rintro e w2 ⟨rfl, hb⟩
          go_simp
          refine hK.out _ _ ?_
          exact ⟨(fun jz => if jz = 19 then .agg #[.int .i64 x.x, .int .i64 x.y, .int .i64 x.z] else if jz = 23 then .agg #[.int .i64 y.x, .int .i64 y.y, .int .i64 y.z] else if jz = 24 then .agg #[.int .i64 p.x, .int .i64 p.y, .int .i64 p.z] else if jz = 25 then .int .i64 sg else v jz), rfl, ⟨below_on hR.st hb, hR.w1.o, hR.w2.o, hR.w3.o, hR.w5.o, hR.w6.o, hR.w7.o, (fun _ j hj => upd_on (hw j hj)), hR.f0.k, hR.f1.k, hR.f2.k, (fun _ => rfl), hR.f4.k, hR.f5.k, hR.f6.k, (fun _ => rfl), (fun _ => rfl), (fun _ => rfl)⟩⟩
        exact EachOf.nil
      rintro L A W6 ⟨vs, rfl, hR⟩ hL
      have e9 := hR.f9 (hL 9 (by simp))
      simp only [e9]
      have HS6 := Lib.hid (HS2.out.on hR.st)
      clear hR hL e9 HS2 LX0 LX1 LX2 LY0 LY1 LY2 LS0 LS1 LP0 LP1 LP2 CT o0 o1 lp0 lp1
      have hl : ∀ (q : Prop), (∃ j, j < i + 1 ∧ 0 < tnS p c j) ↔ ((∃ j, j < i ∧ 0 < tnS p c j) ∨ 0 < tn) := fun _ => by
        constructor
        · rintro ⟨j, h1, h2⟩
          by_cases e : j = i
          · rw [e, HT.out] at h2; exact .inr h2
          · exact .inl ⟨j, by omega, h2⟩
        · rintro (⟨j, h1, h2⟩ | h)
          · exact ⟨j, by omega, h2⟩
          · exact ⟨i, by omega, by rw [HT.out]; exact h⟩
      have hr : ∀ (q : Prop), (∃ j, j < i + 1 ∧ tnS p c j < 0) ↔ ((∃ j, j < i ∧ tnS p c j < 0) ∨ tn < 0) := fun _ => by
        constructor
        · rintro ⟨j, h1, h2⟩
          by_cases e : j = i
          · rw [e, HT.out] at h2; exact .inr h2
          · exact .inl ⟨j, by omega, h2⟩
        · rintro (⟨j, h1, h2⟩ | h)
          · exact ⟨j, by omega, h2⟩
          · exact ⟨i, by omega, by rw [HT.out]; exact h⟩
      have HLR := Lib.hid (And.intro (hl True) (hr True))
      clear hl hr
      rcases Int.lt_trichotomy tn 0 with g | g | g
      · have e1 : sg = -1 := by rw [← HSG.out]; unfold sgI; rw [if_pos g]
        subst e1
        have HN2 : Hid (BtP lb (∃ j, j < i + 1 ∧ 0 < tnS p c j) ∧ BtP true (∃ j, j < i + 1 ∧ tnS p c j < 0)) := by
          refine ⟨?_, ?_⟩
          · show _ ↔ _
            rw [HLR.out.1, show lb = true ↔ _ from HB.out.1]
            exact ⟨.inl, fun h => h.elim id (fun h => by omega)⟩
          · show _ ↔ _
            rw [HLR.out.2]
            exact ⟨fun _ => .inr g, fun _ => rfl⟩
        clear HB HLR HSG HT g
        go_wp2_with fail
        go_roundg (3 - (i + 1))
        case measure => omega
        case rel => exact ⟨i + 1, lb, true, rfl, rfl, rfl, rfl, by omega, HS6, HN2⟩
      · have e1 : sg = 0 := by rw [← HSG.out]; unfold sgI; rw [if_neg (by omega), if_neg (by omega)]
        subst e1
        have HN2 : Hid (BtP lb (∃ j, j < i + 1 ∧ 0 < tnS p c j) ∧ BtP rb (∃ j, j < i + 1 ∧ tnS p c j < 0)) := by
          refine ⟨?_, ?_⟩
          · show _ ↔ _
            rw [HLR.out.1, show lb = true ↔ _ from HB.out.1]
            exact ⟨.inl, fun h => h.elim id (fun h => by omega)⟩
          · show _ ↔ _
            rw [HLR.out.2, show rb = true ↔ _ from HB.out.2]
            exact ⟨.inl, fun h => h.elim id (fun h => by omega)⟩
        clear HB HLR HSG HT g
        go_wp2_with fail
        go_roundg (3 - (i + 1))
        case measure => omega
        case rel => exact ⟨i + 1, lb, rb, rfl, rfl, rfl, rfl, by omega, HS6, HN2⟩
      · have e1 : sg = 1 := by rw [← HSG.out]; unfold sgI; rw [if_neg (by omega), if_pos g]
        subst e1
        have HN2 : Hid (BtP true (∃ j, j < i + 1 ∧ 0 < tnS p c j) ∧ BtP rb (∃ j, j < i + 1 ∧ tnS p c j < 0)) := by
          refine ⟨?_, ?_⟩
          · show _ ↔ _
            rw [HLR.out.1]
            exact ⟨fun _ => .inr g, fun _ => rfl⟩
          · show _ ↔ _
            rw [HLR.out.2, show rb = true ↔ _ from HB.out.2]
            exact ⟨.inl, fun h => h.elim id (fun h => by omega)⟩
        clear HB HLR HSG HT g
        go_wp2_with fail
        go_roundg (3 - (i + 1))
        case measure => omega
        case rel => exact ⟨i + 1, true, rb, rfl, rfl, rfl, rfl, by omega, HS6, HN2⟩
    · have e : i = 3 := by omega
      subst e
      have li : ¬ ((3 : Nat) : Int) < 3 := by omega
      have hE : inT p (c 0) (c 1) (c 2) ↔ ¬ (lb = true ∧ rb = true) ∧ amg p.x (c 0).x (c 1).x (c 2).x ∧ amg p.y (c 0).y (c 1).y (c 2).y := by
        have k0 : tnS p c 0 = tnI (c 1) (c 2) p := rfl
        have k1 : tnS p c 1 = tnI (c 2) (c 0) p := rfl
        have k2 : tnS p c 2 = tnI (c 0) (c 1) p := rfl
        have q1 : (∃ j, j < 3 ∧ 0 < tnS p c j) ↔ (0 < tnI (c 0) (c 1) p ∨ 0 < tnI (c 1) (c 2) p ∨ 0 < tnI (c 2) (c 0) p) := by
          constructor
          · rintro ⟨j, h1, h2⟩
            have : j = 0 ∨ j = 1 ∨ j = 2 := by omega
            rcases this with rfl | rfl | rfl
            · exact .inr (.inl h2)
            · exact .inr (.inr h2)
            · exact .inl h2
          · rintro (h | h | h)
            · exact ⟨2, by omega, h⟩
            · exact ⟨0, by omega, h⟩
            · exact ⟨1, by omega, h⟩
        have q2 : (∃ j, j < 3 ∧ tnS p c j < 0) ↔ (tnI (c 0) (c 1) p < 0 ∨ tnI (c 1) (c 2) p < 0 ∨ tnI (c 2) (c 0) p < 0) := by
          constructor
          · rintro ⟨j, h1, h2⟩
            have : j = 0 ∨ j = 1 ∨ j = 2 := by omega
            rcases this with rfl | rfl | rfl
            · exact .inr (.inl h2)
            · exact .inr (.inr h2)
            · exact .inl h2
          · rintro (h | h | h)
            · exact ⟨2, by omega, h⟩
            · exact ⟨0, by omega, h⟩
            · exact ⟨1, by omega, h⟩
        unfold inT
        rw [show lb = true ↔ _ from HB.out.1, show rb = true ↔ _ from HB.out.2, q1, q2]
      have HE := Lib.hid hE
      clear hE HB hi hlt
      go_upto_region 11 with fail
      obtain ⟨a, ha⟩ : ∃ x, c 0 = x := ⟨_, rfl⟩
      obtain ⟨b, hb⟩ : ∃ x, c 1 = x := ⟨_, rfl⟩
      obtain ⟨d, hd⟩ : ∃ x, c 2 = x := ⟨_, rfl⟩
      have c0 := HS.out.C.c 0 (by omega)
      have c1 := HS.out.C.c 1 (by omega)
      have c2 := HS.out.C.c 2 (by omega)
      rw [ha] at c0 HE HR
      rw [hb] at c1 HE HR
      rw [hd] at c2 HE HR
      have LA0 := Lib.hid (And.intro c0.1 HS.out.C.lt)
      have LA1 := Lib.hid (And.intro c0.2.1 HS.out.C.lt)
      have LA2 := Lib.hid (And.intro c0.2.2 HS.out.C.lt)
      have LB0 := Lib.hid (And.intro c1.1 HS.out.C.lt)
      have LB1 := Lib.hid (And.intro c1.2.1 HS.out.C.lt)
      have LB2 := Lib.hid (And.intro c1.2.2 HS.out.C.lt)
      have LD0 := Lib.hid (And.intro c2.1 HS.out.C.lt)
      have LD1 := Lib.hid (And.intro c2.2.1 HS.out.C.lt)
      have LD2 := Lib.hid (And.intro c2.2.2 HS.out.C.lt)
      clear c0 c1 c2 ha hb hd
      refine wp_region_each (fun L A W => ∃ (v : Nat → Value) (g : Nat → Nat), A = ⟨#[_, _, _, _, _, _, _, _, _, v 9, v 10, v 11, _, _, _, _, _, _, _, _, _, _, _, _, _, _, _, _, _, _, _, v 31, v 32, v 33, v 34, v 35, v 36, _, _, _, _, _, _, _, _, _, _, _, _, _, _, _, _, _, _, _, _, _, _, _, _, _, _, _, _, _], []⟩ ∧ Vt11R b3 a b d W1 L v g W) (by kernel_rfl) (by kernel_rfl) ⟨fun jz => if jz = 31 then undef else if jz = 32 then undef else if jz = 33 then undef else if jz = 34 then undef else if jz = 35 then undef else if jz = 36 then undef else if jz = 9 then undef else if jz = 10 then undef else if jz = 11 then undef else undef, fun _ => 0, rfl, ⟨(Below.drew (Below.refl _ _)), Had.none, Had.none, Had.none, Had.none, Had.none, Had.none, Had.none, Had.none, Had.none, (fun h => by cases h), (fun h => by cases h), (fun h => by cases h), Had.none, Had.none, Had.none, Had.none, Had.none, Had.none, Had.none, Had.none, Had.none, Had.none, Had.none, Had.none, Had.none, Had.none, Had.none⟩⟩ (rs := [0, 1, 2, 3, 4, 5, 6, 7, 8, 9, 10, 11]) (by kernel_rfl) ?_ ?_
      · refine EachOf.cons [] rfl (by kernel_rfl) ?_ ?_
        · rintro L A W ⟨v, g, rfl, hR⟩ hi hw KK hK
          go_simp
          refine hK.out _ _ ?_
          exact ⟨(fun jz => if jz = 31 then .pointer (some ⟨b3, 0, none⟩) else v jz), g, rfl, ⟨hR.st, hR.b6.k, (fun h h2 => hR.z6 (upd_back h rfl) (upd_false h2)), (fun h => hR.y9 (upd_back h rfl)), hR.b7.k, (fun h h2 => hR.z7 (upd_back h rfl) (upd_false h2)), (fun h => hR.y10 (upd_back h rfl)), hR.b8.k, (fun h h2 => hR.z8 (upd_back h rfl) (upd_false h2)), (fun h => hR.y11 (upd_back h rfl)), (hR.n6x7.keep rfl rfl), (hR.n6x8.keep rfl rfl), (hR.n7x8.keep rfl rfl), hR.w1.o, hR.w3.o, hR.w5.o, hR.w9.o, hR.w10.o, hR.w11.o, (fun _ => rfl), hR.f1.k, hR.f2.k, hR.f3.k, hR.f4.k, hR.f5.k, hR.f6.k, hR.f7.k, hR.f8.k⟩⟩
        refine EachOf.cons [0] rfl (by kernel_rfl) ?_ ?_
        · rintro L A W ⟨v, g, rfl, hR⟩ hi hw KK hK
          have e0 := hR.f0 (hw 0 (by simp))
          simp only [e0]
          clear e0
          have q0 := (hR.st.cell (p := ⟨b3, 0, none⟩) LA0.out.2).trans LA0.out.1
          have q1 := (hR.st.cell (p := ⟨b3, 1, none⟩) LA1.out.2).trans LA1.out.1
          have q2 := (hR.st.cell (p := ⟨b3, 2, none⟩) LA2.out.2).trans LA2.out.1
          go_simp
          refine hK.out _ _ ?_
          exact ⟨(fun jz => if jz = 31 then .pointer (some ⟨b3, 0, none⟩) else if jz = 32 then .agg #[.int .i64 a.x, .int .i64 a.y, .int .i64 a.z] else v jz), g, rfl, ⟨hR.st, hR.b6.k, (fun h h2 => hR.z6 (upd_back h rfl) (upd_false h2)), (fun h => hR.y9 (upd_back h rfl)), hR.b7.k, (fun h h2 => hR.z7 (upd_back h rfl) (upd_false h2)), (fun h => hR.y10 (upd_back h rfl)), hR.b8.k, (fun h h2 => hR.z8 (upd_back h rfl) (upd_false h2)), (fun h => hR.y11 (upd_back h rfl)), (hR.n6x7.keep rfl rfl), (hR.n6x8.keep rfl rfl), (hR.n7x8.keep rfl rfl), (fun _ j hj => upd_on (hw j hj)), hR.w3.o, hR.w5.o, hR.w9.o, hR.w10.o, hR.w11.o, (fun _ => rfl), (fun _ => rfl), hR.f2.k, hR.f3.k, hR.f4.k, hR.f5.k, hR.f6.k, hR.f7.k, hR.f8.k⟩⟩
        refine EachOf.cons [] rfl (by kernel_rfl) ?_ ?_
        · rintro L A W ⟨v, g, rfl, hR⟩ hi hw KK hK
          go_simp
          refine hK.out _ _ ?_
          exact ⟨(fun jz => if jz = 33 then .pointer (some ⟨b3, 3, none⟩) else v jz), g, rfl, ⟨hR.st, hR.b6.k, (fun h h2 => hR.z6 (upd_back h rfl) (upd_false h2)), (fun h => hR.y9 (upd_back h rfl)), hR.b7.k, (fun h h2 => hR.z7 (upd_back h rfl) (upd_false h2)), (fun h => hR.y10 (upd_back h rfl)), hR.b8.k, (fun h h2 => hR.z8 (upd_back h rfl) (upd_false h2)), (fun h => hR.y11 (upd_back h rfl)), (hR.n6x7.keep rfl rfl), (hR.n6x8.keep rfl rfl), (hR.n7x8.keep rfl rfl), hR.w1.o, hR.w3.o, hR.w5.o, hR.w9.o, hR.w10.o, hR.w11.o, hR.f0.k, hR.f1.k, (fun _ => rfl), hR.f3.k, hR.f4.k, hR.f5.k, hR.f6.k, hR.f7.k, hR.f8.k⟩⟩
        refine EachOf.cons [2] rfl (by kernel_rfl) ?_ ?_
        · rintro L A W ⟨v, g, rfl, hR⟩ hi hw KK hK
          have e2 := hR.f2 (hw 2 (by simp))
          simp only [e2]
          clear e2
          have q0 := (hR.st.cell (p := ⟨b3, 3, none⟩) LB0.out.2).trans LB0.out.1
          have q1 := (hR.st.cell (p := ⟨b3, 4, none⟩) LB1.out.2).trans LB1.out.1
          have q2 := (hR.st.cell (p := ⟨b3, 5, none⟩) LB2.out.2).trans LB2.out.1
          go_simp
          refine hK.out _ _ ?_
          exact ⟨(fun jz => if jz = 33 then .pointer (some ⟨b3, 3, none⟩) else if jz = 34 then .agg #[.int .i64 b.x, .int .i64 b.y, .int .i64 b.z] else v jz), g, rfl, ⟨hR.st, hR.b6.k, (fun h h2 => hR.z6 (upd_back h rfl) (upd_false h2)), (fun h => hR.y9 (upd_back h rfl)), hR.b7.k, (fun h h2 => hR.z7 (upd_back h rfl) (upd_false h2)), (fun h => hR.y10 (upd_back h rfl)), hR.b8.k, (fun h h2 => hR.z8 (upd_back h rfl) (upd_false h2)), (fun h => hR.y11 (upd_back h rfl)), (hR.n6x7.keep rfl rfl), (hR.n6x8.keep rfl rfl), (hR.n7x8.keep rfl rfl), hR.w1.o, (fun _ j hj => upd_on (hw j hj)), hR.w5.o, hR.w9.o, hR.w10.o, hR.w11.o, hR.f0.k, hR.f1.k, (fun _ => rfl), (fun _ => rfl), hR.f4.k, hR.f5.k, hR.f6.k, hR.f7.k, hR.f8.k⟩⟩
        refine EachOf.cons [] rfl (by kernel_rfl) ?_ ?_
        · rintro L A W ⟨v, g, rfl, hR⟩ hi hw KK hK
          go_simp
          refine hK.out _ _ ?_
          exact ⟨(fun jz => if jz = 35 then .pointer (some ⟨b3, 6, none⟩) else v jz), g, rfl, ⟨hR.st, hR.b6.k, (fun h h2 => hR.z6 (upd_back h rfl) (upd_false h2)), (fun h => hR.y9 (upd_back h rfl)), hR.b7.k, (fun h h2 => hR.z7 (upd_back h rfl) (upd_false h2)), (fun h => hR.y10 (upd_back h rfl)), hR.b8.k, (fun h h2 => hR.z8 (upd_back h rfl) (upd_false h2)), (fun h => hR.y11 (upd_back h rfl)), (hR.n6x7.keep rfl rfl), (hR.n6x8.keep rfl rfl), (hR.n7x8.keep rfl rfl), hR.w1.o, hR.w3.o, hR.w5.o, hR.w9.o, hR.w10.o, hR.w11.o, hR.f0.k, hR.f1.k, hR.f2.k, hR.f3.k, (fun _ => rfl), hR.f5.k, hR.f6.k, hR.f7.k, hR.f8.k⟩⟩
        refine EachOf.cons [4] rfl (by kernel_rfl) ?_ ?_
        · rintro L A W ⟨v, g, rfl, hR⟩ hi hw KK hK
          have e4 := hR.f4 (hw 4 (by simp))
          simp only [e4]
          clear e4
          have q0 := (hR.st.cell (p := ⟨b3, 6, none⟩) LD0.out.2).trans LD0.out.1
          have q1 := (hR.st.cell (p := ⟨b3, 7, none⟩) LD1.out.2).trans LD1.out.1
          have q2 := (hR.st.cell (p := ⟨b3, 8, none⟩) LD2.out.2).trans LD2.out.1
          go_simp
          refine hK.out _ _ ?_
          exact ⟨(fun jz => if jz = 35 then .pointer (some ⟨b3, 6, none⟩) else if jz = 36 then .agg #[.int .i64 d.x, .int .i64 d.y, .int .i64 d.z] else v jz), g, rfl, ⟨hR.st, hR.b6.k, (fun h h2 => hR.z6 (upd_back h rfl) (upd_false h2)), (fun h => hR.y9 (upd_back h rfl)), hR.b7.k, (fun h h2 => hR.z7 (upd_back h rfl) (upd_false h2)), (fun h => hR.y10 (upd_back h rfl)), hR.b8.k, (fun h h2 => hR.z8 (upd_back h rfl) (upd_false h2)), (fun h => hR.y11 (upd_back h rfl)), (hR.n6x7.keep rfl rfl), (hR.n6x8.keep rfl rfl), (hR.n7x8.keep rfl rfl), hR.w1.o, hR.w3.o, (fun _ j hj => upd_on (hw j hj)), hR.w9.o, hR.w10.o, hR.w11.o, hR.f0.k, hR.f1.k, hR.f2.k, hR.f3.k, (fun _ => rfl), (fun _ => rfl), hR.f6.k, hR.f7.k, hR.f8.k⟩⟩
        refine EachOf.cons [] rfl (by kernel_rfl) ?_ ?_
        · rintro L A W ⟨v, g, rfl, hR⟩ hi hw KK hK
          have hz : W1.heap.size ≤ W.heap.size := hR.st.size
          go_simp
          refine hK.out _ _ ?_
          have hb : Below W.heap.size W (W.alloc (Obj.cells #[Value.int .i64 0, Value.int .i64 0, Value.int .i64 0] 23)) := (Below.refl _ _).alloc (Nat.le_refl _) _
          have hnew : CB (W.alloc (Obj.cells #[Value.int .i64 0, Value.int .i64 0, Value.int .i64 0] 23)) W.heap.size [.int .i64 0, .int .i64 0, .int .i64 0] := cb_new _ _ _
          exact ⟨(fun jz => if jz = 9 then .pointer (some ⟨W.heap.size, 0, none⟩) else v jz), (fun jz => if jz = 6 then W.heap.size else g jz), rfl, ⟨below_on hR.st hb, (fun _ => ⟨hz, by simp⟩), (fun _ _ => hnew), (fun h => absurd (hR.w9 (upd_back h rfl) 6 (by simp)) (by simp [hi])), (fun h => ⟨(hR.b7 (upd_back h rfl)).1, Nat.lt_of_lt_of_le (hR.b7 (upd_back h rfl)).2 hb.size⟩), (fun h h2 => (hR.z7 (upd_back h rfl) (upd_false h2)).on hb), (fun h => (hR.y10 (upd_back h rfl)).on hb), (fun h => ⟨(hR.b8 (upd_back h rfl)).1, Nat.lt_of_lt_of_le (hR.b8 (upd_back h rfl)).2 hb.size⟩), (fun h h2 => (hR.z8 (upd_back h rfl) (upd_false h2)).on hb), (fun h => (hR.y11 (upd_back h rfl)).on hb), (fun _ h => (Nat.ne_of_lt (hR.b7 (upd_back h rfl)).2).symm), (fun _ h => (Nat.ne_of_lt (hR.b8 (upd_back h rfl)).2).symm), (hR.n7x8.keep rfl rfl), hR.w1.o, hR.w3.o, hR.w5.o, hR.w9.o, hR.w10.o, hR.w11.o, hR.f0.k, hR.f1.k, hR.f2.k, hR.f3.k, hR.f4.k, hR.f5.k, (fun _ => rfl), hR.f7.k, hR.f8.k⟩⟩
        refine EachOf.cons [] rfl (by kernel_rfl) ?_ ?_
        · rintro L A W ⟨v, g, rfl, hR⟩ hi hw KK hK
          have hz : W1.heap.size ≤ W.heap.size := hR.st.size
          go_simp
          refine hK.out _ _ ?_
          have hb : Below W.heap.size W (W.alloc (Obj.cells #[Value.int .i64 0, Value.int .i64 0, Value.int .i64 0] 23)) := (Below.refl _ _).alloc (Nat.le_refl _) _
          have hnew : CB (W.alloc (Obj.cells #[Value.int .i64 0, Value.int .i64 0, Value.int .i64 0] 23)) W.heap.size [.int .i64 0, .int .i64 0, .int .i64 0] := cb_new _ _ _
          exact ⟨(fun jz => if jz = 10 then .pointer (some ⟨W.heap.size, 0, none⟩) else v jz), (fun jz => if jz = 7 then W.heap.size else g jz), rfl, ⟨below_on hR.st hb, (fun h => ⟨(hR.b6 (upd_back h rfl)).1, Nat.lt_of_lt_of_le (hR.b6 (upd_back h rfl)).2 hb.size⟩), (fun h h2 => (hR.z6 (upd_back h rfl) (upd_false h2)).on hb), (fun h => (hR.y9 (upd_back h rfl)).on hb), (fun _ => ⟨hz, by simp⟩), (fun _ _ => hnew), (fun h => absurd (hR.w10 (upd_back h rfl) 7 (by simp)) (by simp [hi])), (fun h => ⟨(hR.b8 (upd_back h rfl)).1, Nat.lt_of_lt_of_le (hR.b8 (upd_back h rfl)).2 hb.size⟩), (fun h h2 => (hR.z8 (upd_back h rfl) (upd_false h2)).on hb), (fun h => (hR.y11 (upd_back h rfl)).on hb), (fun h _ => Nat.ne_of_lt (hR.b6 (upd_back h rfl)).2), (hR.n6x8.keep rfl rfl), (fun _ h => (Nat.ne_of_lt (hR.b8 (upd_back h rfl)).2).symm), hR.w1.o, hR.w3.o, hR.w5.o, hR.w9.o, hR.w10.o, hR.w11.o, hR.f0.k, hR.f1.k, hR.f2.k, hR.f3.k, hR.f4.k, hR.f5.k, hR.f6.k, (fun _ => rfl), hR.f8.k⟩⟩
        refine EachOf.cons [] rfl (by kernel_rfl) ?_ ?_
        · rintro L A W ⟨v, g, rfl, hR⟩ hi hw KK hK
          have hz : W1.heap.size ≤ W.heap.size := hR.st.size
          go_simp
          refine hK.out _ _ ?_
          have hb : Below W.heap.size W (W.alloc (Obj.cells #[Value.int .i64 0, Value.int .i64 0, Value.int .i64 0] 23)) := (Below.refl _ _).alloc (Nat.le_refl _) _
          have hnew : CB (W.alloc (Obj.cells #[Value.int .i64 0, Value.int .i64 0, Value.int .i64 0] 23)) W.heap.size [.int .i64 0, .int .i64 0, .int .i64 0] := cb_new _ _ _
          exact ⟨(fun jz => if jz = 11 then .pointer (some ⟨W.heap.size, 0, none⟩) else v jz), (fun jz => if jz = 8 then W.heap.size else g jz), rfl, ⟨below_on hR.st hb, (fun h => ⟨(hR.b6 (upd_back h rfl)).1, Nat.lt_of_lt_of_le (hR.b6 (upd_back h rfl)).2 hb.size⟩), (fun h h2 => (hR.z6 (upd_back h rfl) (upd_false h2)).on hb), (fun h => (hR.y9 (upd_back h rfl)).on hb), (fun h => ⟨(hR.b7 (upd_back h rfl)).1, Nat.lt_of_lt_of_le (hR.b7 (upd_back h rfl)).2 hb.size⟩), (fun h h2 => (hR.z7 (upd_back h rfl) (upd_false h2)).on hb), (fun h => (hR.y10 (upd_back h rfl)).on hb), (fun _ => ⟨hz, by simp⟩), (fun _ _ => hnew), (fun h => absurd (hR.w11 (upd_back h rfl) 8 (by simp)) (by simp [hi])), (hR.n6x7.keep rfl rfl), (fun h _ => Nat.ne_of_lt (hR.b6 (upd_back h rfl)).2), (fun h _ => Nat.ne_of_lt (hR.b7 (upd_back h rfl)).2), hR.w1.o, hR.w3.o, hR.w5.o, hR.w9.o, hR.w10.o, hR.w11.o, hR.f0.k, hR.f1.k, hR.f2.k, hR.f3.k, hR.f4.k, hR.f5.k, hR.f6.k, hR.f7.k, (fun _ => rfl)⟩⟩
        refine EachOf.cons [0, 1, 6, 7, 8] rfl (by kernel_rfl) ?_ ?_
        · rintro L A W ⟨v, g, rfl, hR⟩ hi hw KK hK
          have e6 := hR.f6 (hw 6 (by simp))
          have e1 := hR.f1 (hw 1 (by simp))
          simp only [e6, e1]
          clear e6 e1
          have hzz := hR.z6 (hw 6 (by simp)) hi
          have hbb := hR.b6 (hw 6 (by simp))
          have q0 := hzz.cell 0 _ rfl
          have y0 := hzz.fz 0
          have q1 := hzz.cell 1 _ rfl
          have y1 := hzz.fz 1
          have q2 := hzz.cell 2 _ rfl
          have y2 := hzz.fz 2
          have ql := hzz.lt
          go_simp
          refine hK.out _ _ ?_
          exact ⟨(fun jz => if jz = 9 then .pointer (some ⟨g 6, 0, none⟩) else if jz = 32 then .agg #[.int .i64 a.x, .int .i64 a.y, .int .i64 a.z] else v jz), g, rfl, ⟨(stL_below hbb.1 [.int .i64 a.x, .int .i64 a.y, .int .i64 a.z] W 0 hR.st), (fun h => ⟨(hR.b6 (upd_back h rfl)).1, Nat.lt_of_lt_of_eq (hR.b6 (upd_back h rfl)).2 (stL_size (b := g 6) [.int .i64 a.x, .int .i64 a.y, .int .i64 a.z] W 0).symm⟩), (fun _ h => by simp [upd_self] at h), (fun _ => CB.fill (vs := [.int .i64 a.x, .int .i64 a.y, .int .i64 a.z]) hzz rfl), (fun h => ⟨(hR.b7 (upd_back h rfl)).1, Nat.lt_of_lt_of_eq (hR.b7 (upd_back h rfl)).2 (stL_size (b := g 6) [.int .i64 a.x, .int .i64 a.y, .int .i64 a.z] W 0).symm⟩), (fun h h2 => stL_far (hR.n6x7 (hw 6 (by simp)) (upd_back h rfl)) [.int .i64 a.x, .int .i64 a.y, .int .i64 a.z] W 0 (hR.z7 (upd_back h rfl) (upd_false h2))), (fun h => stL_far (hR.n6x7 (hw 6 (by simp)) (hR.w10 (upd_back h rfl) 7 (by simp))) [.int .i64 a.x, .int .i64 a.y, .int .i64 a.z] W 0 (hR.y10 (upd_back h rfl))), (fun h => ⟨(hR.b8 (upd_back h rfl)).1, Nat.lt_of_lt_of_eq (hR.b8 (upd_back h rfl)).2 (stL_size (b := g 6) [.int .i64 a.x, .int .i64 a.y, .int .i64 a.z] W 0).symm⟩), (fun h h2 => stL_far (hR.n6x8 (hw 6 (by simp)) (upd_back h rfl)) [.int .i64 a.x, .int .i64 a.y, .int .i64 a.z] W 0 (hR.z8 (upd_back h rfl) (upd_false h2))), (fun h => stL_far (hR.n6x8 (hw 6 (by simp)) (hR.w11 (upd_back h rfl) 8 (by simp))) [.int .i64 a.x, .int .i64 a.y, .int .i64 a.z] W 0 (hR.y11 (upd_back h rfl))), (hR.n6x7.keep rfl rfl), (hR.n6x8.keep rfl rfl), (hR.n7x8.keep rfl rfl), hR.w1.o, hR.w3.o, hR.w5.o, (fun _ j hj => upd_on (hw j hj)), hR.w10.o, hR.w11.o, hR.f0.k, (fun _ => rfl), hR.f2.k, hR.f3.k, hR.f4.k, hR.f5.k, (fun _ => rfl), hR.f7.k, hR.f8.k⟩⟩
        refine EachOf.cons [0, 1, 2, 3, 6, 7, 8, 9] rfl (by kernel_rfl) ?_ ?_
        · rintro L A W ⟨v, g, rfl, hR⟩ hi hw KK hK
          have e7 := hR.f7 (hw 7 (by simp))
          have e3 := hR.f3 (hw 3 (by simp))
          simp only [e7, e3]
          clear e7 e3
          have hzz := hR.z7 (hw 7 (by simp)) hi
          have hbb := hR.b7 (hw 7 (by simp))
          have q0 := hzz.cell 0 _ rfl
          have y0 := hzz.fz 0
          have q1 := hzz.cell 1 _ rfl
          have y1 := hzz.fz 1
          have q2 := hzz.cell 2 _ rfl
          have y2 := hzz.fz 2
          have ql := hzz.lt
          go_simp
          refine hK.out _ _ ?_
          exact ⟨(fun jz => if jz = 10 then .pointer (some ⟨g 7, 0, none⟩) else if jz = 34 then .agg #[.int .i64 b.x, .int .i64 b.y, .int .i64 b.z] else v jz), g, rfl, ⟨(stL_below hbb.1 [.int .i64 b.x, .int .i64 b.y, .int .i64 b.z] W 0 hR.st), (fun h => ⟨(hR.b6 (upd_back h rfl)).1, Nat.lt_of_lt_of_eq (hR.b6 (upd_back h rfl)).2 (stL_size (b := g 7) [.int .i64 b.x, .int .i64 b.y, .int .i64 b.z] W 0).symm⟩), (fun h h2 => stL_far (fun q => hR.n6x7 (upd_back h rfl) (hw 7 (by simp)) q.symm) [.int .i64 b.x, .int .i64 b.y, .int .i64 b.z] W 0 (hR.z6 (upd_back h rfl) (upd_false h2))), (fun h => stL_far (fun q => hR.n6x7 (hR.w9 (upd_back h rfl) 6 (by simp)) (hw 7 (by simp)) q.symm) [.int .i64 b.x, .int .i64 b.y, .int .i64 b.z] W 0 (hR.y9 (upd_back h rfl))), (fun h => ⟨(hR.b7 (upd_back h rfl)).1, Nat.lt_of_lt_of_eq (hR.b7 (upd_back h rfl)).2 (stL_size (b := g 7) [.int .i64 b.x, .int .i64 b.y, .int .i64 b.z] W 0).symm⟩), (fun _ h => by simp [upd_self] at h), (fun _ => CB.fill (vs := [.int .i64 b.x, .int .i64 b.y, .int .i64 b.z]) hzz rfl), (fun h => ⟨(hR.b8 (upd_back h rfl)).1, Nat.lt_of_lt_of_eq (hR.b8 (upd_back h rfl)).2 (stL_size (b := g 7) [.int .i64 b.x, .int .i64 b.y, .int .i64 b.z] W 0).symm⟩), (fun h h2 => stL_far (hR.n7x8 (hw 7 (by simp)) (upd_back h rfl)) [.int .i64 b.x, .int .i64 b.y, .int .i64 b.z] W 0 (hR.z8 (upd_back h rfl) (upd_false h2))), (fun h => stL_far (hR.n7x8 (hw 7 (by simp)) (hR.w11 (upd_back h rfl) 8 (by simp))) [.int .i64 b.x, .int .i64 b.y, .int .i64 b.z] W 0 (hR.y11 (upd_back h rfl))), (hR.n6x7.keep rfl rfl), (hR.n6x8.keep rfl rfl), (hR.n7x8.keep rfl rfl), hR.w1.o, hR.w3.o, hR.w5.o, hR.w9.o, (fun _ j hj => upd_on (hw j hj)), hR.w11.o, hR.f0.k, hR.f1.k, hR.f2.k, (fun _ => rfl), hR.f4.k, hR.f5.k, hR.f6.k, (fun _ => rfl), hR.f8.k⟩⟩
        refine EachOf.cons [0, 1, 2, 3, 4, 5, 6, 7, 8, 9, 10] rfl (by kernel_rfl) ?_ ?_
        · rintro L A W ⟨v, g, rfl, hR⟩ hi hw KK hK
          have e8 := hR.f8 (hw 8 (by simp))
          have e5 := hR.f5 (hw 5 (by simp))
          simp only [e8, e5]
          clear e8 e5
          have hzz := hR.z8 (hw 8 (by simp)) hi
          have hbb := hR.b8 (hw 8 (by simp))
          have q0 := hzz.cell 0 _ rfl
          have y0 := hzz.fz 0
          have q1 := hzz.cell 1 _ rfl
          have y1 := hzz.fz 1
          have q2 := hzz.cell 2 _ rfl
          have y2 := hzz.fz 2
          have ql := hzz.lt
          go_simp
          refine hK.out _ _ ?_
          exact ⟨(fun jz => if jz = 11 then .pointer (some ⟨g 8, 0, none⟩) else if jz = 36 then .agg #[.int .i64 d.x, .int .i64 d.y, .int .i64 d.z] else v jz), g, rfl, ⟨(stL_below hbb.1 [.int .i64 d.x, .int .i64 d.y, .int .i64 d.z] W 0 hR.st), (fun h => ⟨(hR.b6 (upd_back h rfl)).1, Nat.lt_of_lt_of_eq (hR.b6 (upd_back h rfl)).2 (stL_size (b := g 8) [.int .i64 d.x, .int .i64 d.y, .int .i64 d.z] W 0).symm⟩), (fun h h2 => stL_far (fun q => hR.n6x8 (upd_back h rfl) (hw 8 (by simp)) q.symm) [.int .i64 d.x, .int .i64 d.y, .int .i64 d.z] W 0 (hR.z6 (upd_back h rfl) (upd_false h2))), (fun h => stL_far (fun q => hR.n6x8 (hR.w9 (upd_back h rfl) 6 (by simp)) (hw 8 (by simp)) q.symm) [.int .i64 d.x, .int .i64 d.y, .int .i64 d.z] W 0 (hR.y9 (upd_back h rfl))), (fun h => ⟨(hR.b7 (upd_back h rfl)).1, Nat.lt_of_lt_of_eq (hR.b7 (upd_back h rfl)).2 (stL_size (b := g 8) [.int .i64 d.x, .int .i64 d.y, .int .i64 d.z] W 0).symm⟩), (fun h h2 => stL_far (fun q => hR.n7x8 (upd_back h rfl) (hw 8 (by simp)) q.symm) [.int .i64 d.x, .int .i64 d.y, .int .i64 d.z] W 0 (hR.z7 (upd_back h rfl) (upd_false h2))), (fun h => stL_far (fun q => hR.n7x8 (hR.w10 (upd_back h rfl) 7 (by simp)) (hw 8 (by simp)) q.symm) [.int .i64 d.x, .int .i64 d.y, .int .i64 d.z] W 0 (hR.y10 (upd_back h rfl))), (fun h => ⟨(hR.b8 (upd_back h rfl)).1, Nat.lt_of_lt_of_eq (hR.b8 (upd_back h rfl)).2 (stL_size (b := g 8) [.int .i64 d.x, .int .i64 d.y, .int .i64 d.z] W 0).symm⟩), (fun _ h => by simp [upd_self] at h), (fun _ => CB.fill (vs := [.int .i64 d.x, .int .i64 d.y, .int .i64 d.z]) hzz rfl), (hR.n6x7.keep rfl rfl), (hR.n6x8.keep rfl rfl), (hR.n7x8.keep rfl rfl), hR.w1.o, hR.w3.o, hR.w5.o, hR.w9.o, hR.w10.o, (fun _ j hj => upd_on (hw j hj)), hR.f0.k, hR.f1.k, hR.f2.k, hR.f3.k, hR.f4.k, (fun _ => rfl), hR.f6.k, hR.f7.k, (fun _ => rfl)⟩⟩
        exact EachOf.nil
      rintro L A W6 ⟨vs, gg, rfl, hR⟩ hL
      have e6 := hR.f6 (hL 6 (by simp))
      have e7 := hR.f7 (hL 7 (by simp))
      have e8 := hR.f8 (hL 8 (by simp))
      simp only [e6, e7, e8]
      have D9 := (hR.y9 (hL 9 (by simp))).b3
      have D10 := (hR.y10 (hL 10 (by simp))).b3
      have D11 := (hR.y11 (hL 11 (by simp))).b3
      have HS6 : Hid (T3S w W6 (gg 6) (gg 7) (gg 8) a b d ∧ B3 W6 b2 p.x p.y p.z) := ⟨⟨below_on HS.out.st hR.st, D9, D10, D11⟩, HS.out.P.on hR.st⟩
      generalize gg 6 = b9 at *
      generalize gg 7 = b10 at *
      generalize gg 8 = b11 at *
      clear e6 e7 e8 hR hL D9 D10 D11 LA0 LA1 LA2 LB0 LB1 LB2 LD0 LD1 LD2 HS
      have CX := fun W => Lib.hid (amongN_any p.x a.x b.x d.x W)
      have CY := fun W => Lib.hid (amongN_any p.y a.y b.y d.y W)
      obtain ⟨tx, htx⟩ : ∃ t, decide (amg p.x a.x b.x d.x) = t := ⟨_, rfl⟩
      obtain ⟨ty, hty⟩ : ∃ t, decide (amg p.y a.y b.y d.y) = t := ⟨_, rfl⟩
      rw [htx] at CX
      rw [hty] at CY
      have HRR : Hid (res = (!(lb && rb) && (tx && ty))) := by
        show res = _
        rw [← htx, ← hty]
        exact tri_bool res lb rb _ _ (HR.out.trans HE.out)
      have p0 := HS6.out.2.c0
      have p1 := HS6.out.2.c1
      have a0 := HS6.out.1.A.c0
      have a1 := HS6.out.1.A.c1
      have b0 := HS6.out.1.B.c0
      have b1 := HS6.out.1.B.c1
      have d0 := HS6.out.1.C.c0
      have d1 := HS6.out.1.C.c1
      clear htx hty HE HR HOK
      cases lb with
      | true =>
        cases rb with
        | true =>
          have hr : res = false := HRR.out
          subst hr
          go_wp2_with fail
          go_ret
          exact ⟨rfl, HS6.out.1.st⟩
        | false =>
          cases tx with
          | false =>
            have hr : res = false := by rw [HRR.out]; simp
            subst hr
            go_wp2_with (go_at_call 88; (with_reducible refine ((CX _).out.mono ?_)); rintro e w7 ⟨rfl, hb7⟩; have HE7 := Lib.hid (below_on HS6.out.1.st hb7); clear hb7 CX p0 p1 a0 a1 b0 b1 d0 d1)
            go_ret
            exact ⟨rfl, HE7.out⟩
          | true =>
            have hr : res = ty := by rw [HRR.out]; simp
            subst hr
            go_wp2_with (first
              | (go_at_call 88; (with_reducible refine ((CX _).out.mono ?_)); rintro e w7 ⟨rfl, hb7⟩; have HS7 : Hid (T3S w w7 b9 b10 b11 a b d ∧ B3 w7 b2 p.x p.y p.z) := ⟨HS6.out.1.on hb7, HS6.out.2.on hb7⟩; clear hb7 CX p0 p1 a0 a1 b0 b1 d0 d1 HS6; have p1 := HS7.out.2.c1; have a1 := HS7.out.1.A.c1; have b1 := HS7.out.1.B.c1; have d1 := HS7.out.1.C.c1)
              | (go_at_call 88; (with_reducible refine ((CY _).out.mono ?_)); rintro e w8 ⟨rfl, hb8⟩; have HE8 := Lib.hid (below_on HS7.out.1.st hb8); clear hb8 CY HS7 p1 a1 b1 d1))
            go_ret
            exact ⟨rfl, HE8.out⟩
      | false =>
        cases tx with
        | false =>
          have hr : res = false := by rw [HRR.out]; simp
          subst hr
          go_wp2_with (go_at_call 88; (with_reducible refine ((CX _).out.mono ?_)); rintro e w7 ⟨rfl, hb7⟩; have HE7 := Lib.hid (below_on HS6.out.1.st hb7); clear hb7 CX p0 p1 a0 a1 b0 b1 d0 d1)
          go_ret
          exact ⟨rfl, HE7.out⟩
        | true =>
          have hr : res = ty := by rw [HRR.out]; simp
          subst hr
          go_wp2_with (first
            | (go_at_call 88; (with_reducible refine ((CX _).out.mono ?_)); rintro e w7 ⟨rfl, hb7⟩; have HS7 : Hid (T3S w w7 b9 b10 b11 a b d ∧ B3 w7 b2 p.x p.y p.z) := ⟨HS6.out.1.on hb7, HS6.out.2.on hb7⟩; clear hb7 CX p0 p1 a0 a1 b0 b1 d0 d1 HS6; have p1 := HS7.out.2.c1; have a1 := HS7.out.1.A.c1; have b1 := HS7.out.1.B.c1; have d1 := HS7.out.1.C.c1)
            | (go_at_call 88; (with_reducible refine ((CY _).out.mono ?_)); rintro e w8 ⟨rfl, hb8⟩; have HE8 := Lib.hid (below_on HS7.out.1.st hb8); clear hb8 CY HS7 p1 a1 b1 d1))
          go_ret
          exact ⟨rfl, HE8.out⟩
end Go.Proofs.YtcghjjfpjiacfaaDoor
