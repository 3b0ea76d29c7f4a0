/- Layer 9: what is perpendicular. -/
import Derived.Test.YtcghjjfpjiacfaaDoorVF2
namespace Go.Proofs.YtcghjjfpjiacfaaDoor
open Go.ChangeShapes Go.WideShapes Go.ChangeAt Go.RowKit Go.Joins Go.Deep Go.Shelf
set_option linter.unusedVariables false

def sgB (a b : Int) : Bool := decide (a < 0) == decide (b < 0)
def ppF (n v : Pt) : Nat → Int
  | 0 => 0
  | i + 1 => ppF n v i + (if sgB (n.at i) (v.at i) = true then ((n.at i).natAbs : Int) * (v.at i).natAbs else 0)
def mmF (n v : Pt) : Nat → Int
  | 0 => 0
  | i + 1 => mmF n v i + (if sgB (n.at i) (v.at i) = true then 0 else ((n.at i).natAbs : Int) * (v.at i).natAbs)
theorem sg_mul (a b : Int) : (if sgB a b = true then (a.natAbs : Int) * b.natAbs else 0) - (if sgB a b = true then 0 else (a.natAbs : Int) * b.natAbs) = a * b := by
  unfold sgB
  rcases Int.lt_or_le a 0 with h1 | h1 <;> rcases Int.lt_or_le b 0 with h2 | h2
  · rw [decide_eq_true h1, decide_eq_true h2, show (a.natAbs : Int) = -a by omega, show (b.natAbs : Int) = -b by omega]
    first | (simp; done) | (simp; grind)
  · rw [decide_eq_true h1, decide_eq_false (by omega), show (a.natAbs : Int) = -a by omega, show (b.natAbs : Int) = b by omega]
    first | (simp; done) | (simp; grind)
  · rw [decide_eq_false (by omega), decide_eq_true h2, show (a.natAbs : Int) = a by omega, show (b.natAbs : Int) = -b by omega]
    first | (simp; done) | (simp; grind)
  · rw [decide_eq_false (by omega), decide_eq_false (by omega), show (a.natAbs : Int) = a by omega, show (b.natAbs : Int) = b by omega]
    first | (simp; done) | (simp; grind)
theorem pp_mm (n v : Pt) : ppF n v 3 - mmF n v 3 = n.dot v := by
  have h0 := sg_mul (n.at 0) (v.at 0)
  have h1 := sg_mul (n.at 1) (v.at 1)
  have h2 := sg_mul (n.at 2) (v.at 2)
  have e : n.dot v = n.at 0 * v.at 0 + n.at 1 * v.at 1 + n.at 2 * v.at 2 := rfl
  have e1 : ppF n v 3 = 0 + (if sgB (n.at 0) (v.at 0) = true then ((n.at 0).natAbs : Int) * (v.at 0).natAbs else 0) + (if sgB (n.at 1) (v.at 1) = true then ((n.at 1).natAbs : Int) * (v.at 1).natAbs else 0) + (if sgB (n.at 2) (v.at 2) = true then ((n.at 2).natAbs : Int) * (v.at 2).natAbs else 0) := rfl
  have e2 : mmF n v 3 = 0 + (if sgB (n.at 0) (v.at 0) = true then 0 else ((n.at 0).natAbs : Int) * (v.at 0).natAbs) + (if sgB (n.at 1) (v.at 1) = true then 0 else ((n.at 1).natAbs : Int) * (v.at 1).natAbs) + (if sgB (n.at 2) (v.at 2) = true then 0 else ((n.at 2).natAbs : Int) * (v.at 2).natAbs) := rfl
  rw [e, e1, e2]
  omega
theorem pr_bd {n v : Pt} (hn : lim3 n 8796093022208) (hv : lim3 v 2097152) (i : Nat) (hi : i < 3) : 0 ≤ ((n.at i).natAbs : Int) * (v.at i).natAbs ∧ ((n.at i).natAbs : Int) * (v.at i).natAbs ≤ 18446744073709551616 := by
  have h1 := hn i hi
  have h2 := hv i hi
  have h : ((n.at i).natAbs) * (v.at i).natAbs ≤ 8796093022208 * 2097152 := Nat.mul_le_mul (by omega) (by omega)
  rw [← Int.natCast_mul]
  omega
theorem ppF_bd {n v : Pt} (hn : lim3 n 8796093022208) (hv : lim3 v 2097152) : ∀ i, i ≤ 3 → 0 ≤ ppF n v i ∧ ppF n v i ≤ i * 18446744073709551616 ∧ 0 ≤ mmF n v i ∧ mmF n v i ≤ i * 18446744073709551616
  | 0, _ => ⟨Int.le_refl 0, by show (0 : Int) ≤ _; omega, Int.le_refl 0, by show (0 : Int) ≤ _; omega⟩
  | i + 1, hi => by
    have ih := ppF_bd hn hv i (by omega)
    have hb := pr_bd hn hv i (by omega)
    show 0 ≤ ppF n v i + _ ∧ ppF n v i + _ ≤ _ ∧ 0 ≤ mmF n v i + _ ∧ mmF n v i + _ ≤ _
    split <;> omega
structure ArS (w W : World) (b2 b3 b5 b6 : Nat) (n v : Pt) (P M : Int) : Prop where
  st : Below w.heap.size w W
  B : F3 W b3 v.at
  P5 : OB W b5 (.int .u64 (hiW P)) (.int .u64 (loW P))
  M6 : OB W b6 (.int .u64 (hiW M)) (.int .u64 (loW M))
  l5 : w.heap.size ≤ b5
  l6 : w.heap.size ≤ b6
  n3 : b5 ≠ b3
  n4 : b6 ≠ b3
  n5 : b5 ≠ b6
theorem ArS.on {w W W2 : World} {b2 b3 b5 b6 : Nat} {n v : Pt} {P M : Int} (h : ArS w W b2 b3 b5 b6 n v P M) (hb : Below W.heap.size W W2) : ArS w W2 b2 b3 b5 b6 n v P M := ⟨below_on h.st hb, h.B.on hb, h.P5.on hb, h.M6.on hb, h.l5, h.l6, h.n3, h.n4, h.n5⟩
theorem OB.far {W : World} {b : Nat} {v0 v1 : Value} (h : OB W b v0 v1) {c : Nat} (hc : c ≠ b) (i : Nat) (v : Value) : OB (W.setCell ⟨c, i, none⟩ v) b v0 v1 :=
  ⟨by simpa using h.lt, by rw [World.cell?_setCell_other _ _ _ _ (by intro e; exact hc (congrArg Addr.block e))]; exact h.c0, by rw [World.cell?_setCell_other _ _ _ _ (by intro e; exact hc (congrArg Addr.block e))]; exact h.c1, fun k => by simpa using h.f k⟩
theorem OB.set {W : World} {b : Nat} {v0 v1 : Value} (h : OB W b v0 v1) (u0 u1 : Value) (h0 : u0.oneCell' = true) (h1 : u1.oneCell' = true) : OB ((W.setCell ⟨b, 0, none⟩ u0).setCell ⟨b, 1, none⟩ u1) b u0 u1 := by
  have c0 := h.c0
  have c1 := h.c1
  refine ⟨by simpa using h.lt, ?_, ?_, fun k => by simpa using h.f k⟩
  · rw [World.cell?_setCell_other _ _ _ _ (adr_ne (b := b) (i := 1) (j := 0) (by omega))]
    exact World.cell?_setCell_same' _ _ _ (by rw [c0]; rfl)
  · exact World.cell?_setCell_same' _ _ _ (by rw [World.cell?_setCell_other _ _ _ _ (adr_ne (b := b) (i := 0) (j := 1) (by omega)), c1]; rfl)
theorem ArS.setP {w W : World} {b2 b3 b5 b6 : Nat} {n v : Pt} {P M : Int} (h : ArS w W b2 b3 b5 b6 n v P M) (Q : Int) : ArS w ((W.setCell ⟨b5, 0, none⟩ (.int .u64 (hiW Q))).setCell ⟨b5, 1, none⟩ (.int .u64 (loW Q))) b2 b3 b5 b6 n v Q M :=
  ⟨(h.st.setCell h.l5 _).setCell h.l5 _, (h.B.far h.n3 _ _).far h.n3 _ _, h.P5.set _ _ rfl rfl, (h.M6.far h.n5 _ _).far h.n5 _ _, h.l5, h.l6, h.n3, h.n4, h.n5⟩
theorem ArS.setM {w W : World} {b2 b3 b5 b6 : Nat} {n v : Pt} {P M : Int} (h : ArS w W b2 b3 b5 b6 n v P M) (Q : Int) : ArS w ((W.setCell ⟨b6, 0, none⟩ (.int .u64 (hiW Q))).setCell ⟨b6, 1, none⟩ (.int .u64 (loW Q))) b2 b3 b5 b6 n v P Q :=
  ⟨(h.st.setCell h.l6 _).setCell h.l6 _, (h.B.far h.n4 _ _).far h.n4 _ _, (h.P5.far (Ne.symm h.n5) _ _).far (Ne.symm h.n5) _ _, h.M6.set _ _ rfl rfl, h.l5, h.l6, h.n3, h.n4, h.n5⟩
structure VpaR (b5 b3 i : Nat) (x y P Q5 : Int) (Wc : World) (L : Nat → Bool) (v : Nat → Value) (W : World) : Prop where
  st : L 6 = false → Below Wc.heap.size Wc W
  s1 : Had L 6 (∃ W2, Below Wc.heap.size Wc W2 ∧ W = (W2.setCell ⟨b5, 0, none⟩ (.int .u64 (hiW Q5))).setCell ⟨b5, 1, none⟩ (.int .u64 (loW Q5)))
  w3 : Had L 3 (∀ j ∈ [2], L j = true)
  w4 : Had L 4 (∀ j ∈ [3], L j = true)
  w5 : Had L 5 (∀ j ∈ [0, 1, 4], L j = true)
  w6 : Had L 6 (∀ j ∈ [0, 1, 2, 3, 4, 5], L j = true)
  f0 : Had L 0 (v 21 = .agg #[.int .u64 (hiW P), .int .u64 (loW P)])
  f1 : Had L 1 (v 22 = .int .i64 x)
  f2 : Had L 2 (v 23 = .int .i64 (i : Int))
  f3 : Had L 3 (v 24 = .pointer (some ⟨b3, i, none⟩))
  f4 : Had L 4 (v 25 = .int .i64 y)
  f5 : Had L 5 (v 26 = .agg #[.int .u64 (hiW Q5), .int .u64 (loW Q5)])
structure VpbR (b6 b3 i : Nat) (x y M Q6 : Int) (Wc : World) (L : Nat → Bool) (v : Nat → Value) (W : World) : Prop where
  st : L 6 = false → Below Wc.heap.size Wc W
  s1 : Had L 6 (∃ W2, Below Wc.heap.size Wc W2 ∧ W = (W2.setCell ⟨b6, 0, none⟩ (.int .u64 (hiW Q6))).setCell ⟨b6, 1, none⟩ (.int .u64 (loW Q6)))
  w3 : Had L 3 (∀ j ∈ [2], L j = true)
  w4 : Had L 4 (∀ j ∈ [3], L j = true)
  w5 : Had L 5 (∀ j ∈ [0, 1, 4], L j = true)
  w6 : Had L 6 (∀ j ∈ [0, 1, 2, 3, 4, 5], L j = true)
  f0 : Had L 0 (v 27 = .agg #[.int .u64 (hiW M), .int .u64 (loW M)])
  f1 : Had L 1 (v 28 = .int .i64 x)
  f2 : Had L 2 (v 29 = .int .i64 (i : Int))
  f3 : Had L 3 (v 30 = .pointer (some ⟨b3, i, none⟩))
  f4 : Had L 4 (v 31 = .int .i64 y)
  f5 : Had L 5 (v 32 = .agg #[.int .u64 (hiW Q6), .int .u64 (loW Q6)])
set_option maxRecDepth 100000 in
set_option maxHeartbeats 16000000 in
theorem perp_any (n v : Pt) (w : World) (hn : lim3 n 8796093022208) (hv : lim3 v 2097152) : Calls Tryd.prog 46 #[.agg #[.int .i64 n.x, .int .i64 n.y, .int .i64 n.z], .agg #[.int .i64 v.x, .int .i64 v.y, .int .i64 v.z]] w fun e w' => e = .returned (.bool (decide (n.dot v = 0))) ∧ Below w.heap.size w w' := by
  obtain ⟨w1, hw1⟩ : ∃ W, W = (w.alloc (Obj.cells #[.int .i64 n.x, .int .i64 n.y, .int .i64 n.z] 79)).alloc (Obj.cells #[.int .i64 v.x, .int .i64 v.y, .int .i64 v.z] 79) := ⟨_, rfl⟩
  obtain ⟨hb1, hA, hB⟩ := two_boxes w n v _ _ w1 hw1
  obtain ⟨w2, hw2⟩ : ∃ W, W = w1.alloc (Obj.cells #[.int .u64 0, .int .u64 0] 122) := ⟨_, rfl⟩
  obtain ⟨w3, hw3⟩ : ∃ W, W = w2.alloc (Obj.cells #[.int .u64 0, .int .u64 0] 122) := ⟨_, rfl⟩
  have hb2 : Below w1.heap.size w1 w2 := by rw [hw2]; exact below_alloc _ _
  have hb3 : Below w2.heap.size w2 w3 := by rw [hw3]; exact below_alloc _ _
  obtain ⟨b2, hb2'⟩ : ∃ x, x = w.heap.size := ⟨_, rfl⟩
  obtain ⟨b3, hb3'⟩ : ∃ x, x = w.heap.size + 1 := ⟨_, rfl⟩
  obtain ⟨b5, hb5'⟩ : ∃ x, x = w1.heap.size := ⟨_, rfl⟩
  obtain ⟨b6, hb6'⟩ : ∃ x, x = w1.heap.size + 1 := ⟨_, rfl⟩
  have hs1 : w1.heap.size = w.heap.size + 2 := by rw [hw1]; simp
  have hs2 : w2.heap.size = w1.heap.size + 1 := by rw [hw2]; simp
  have hP : OB w2 b5 (.int .u64 0) (.int .u64 0) := by rw [hw2, hb5']; exact OB.new _ _ _ _
  have hM : OB w3 b6 (.int .u64 0) (.int .u64 0) := by rw [hw3, hb6', ← hs2]; exact OB.new _ _ _ _
  have HN : Hid (b2 = w.heap.size ∧ b3 = w.heap.size + 1 ∧ b5 = w1.heap.size ∧ b6 = w1.heap.size + 1 ∧ w1 = (w.alloc (Obj.cells #[.int .i64 n.x, .int .i64 n.y, .int .i64 n.z] 79)).alloc (Obj.cells #[.int .i64 v.x, .int .i64 v.y, .int .i64 v.z] 79) ∧ w3 = (w1.alloc (Obj.cells #[.int .u64 0, .int .u64 0] 122)).alloc (Obj.cells #[.int .u64 0, .int .u64 0] 122)) := ⟨hb2', hb3', hb5', hb6', hw1, by rw [hw3, hw2]⟩
  rw [← hb2'] at hA
  rw [← hb3'] at hB
  have HS : Hid (ArS w w3 b2 b3 b5 b6 n v (ppF n v 0) (mmF n v 0)) := ⟨below_on (below_on hb1 hb2) hb3, ((hB.f3 v).on hb2).on hb3, hP.on hb3, hM, by omega, by omega, by omega, by omega, by omega⟩
  have hA3 := (hA.on hb2).on hb3
  have a0 := hA3.c0
  have a1 := hA3.c1
  have a2 := hA3.c2
  have HBD := Lib.hid (ppF_bd hn hv)
  have HPB := Lib.hid (@pr_bd n v hn hv)
  have HL := Lib.hid (And.intro hn hv)
  have HD := Lib.hid (pp_mm n v)
  obtain ⟨res, hres⟩ : ∃ r, decide (n.dot v = 0) = r := ⟨_, rfl⟩
  rw [hres]
  have HR := Lib.hid hres
  clear hA hB hP hM hb1 hb2 hb3 hb2' hb3' hb5' hb6' hw1 hw2 hw3 hs1 hs2 hA3 hn hv hres
  go_enter Tryd.func46, Tryd.ntmps46
  go_upto_region 1 with fail
  rw [← HN.out.2.2.2.2.1, ← HN.out.2.1, ← HN.out.1]
  go_upto_region 2 with fail
  rw [← HN.out.2.2.2.2.2, ← HN.out.2.2.2.1, ← HN.out.2.2.1]
  clear HN
  go_wp2_with fail
  clear a0 a1 a2
  go_loopg [10] 3 (fun mm s10 wx => ∃ i : Nat, s10 = .int .i64 (i : Int) ∧ mm = 3 - i ∧ i ≤ 3 ∧ Hid (ArS w wx b2 b3 b5 b6 n v (ppF n v i) (mmF n v i)))
  case atStart => exact ⟨0, rfl, rfl, by omega, HS⟩
  case round =>
    clear HS
    obtain ⟨i, rfl, rfl, hi, HS⟩ := hrel
    rename World => W1
    by_cases hlt : i < 3
    · have wi : IntKind.i64.wrap ((i : Int) + 1) = ((i + 1 : Nat) : Int) := by rw [IntWalk.i64_in _ (by omega)]; omega
      have li : (i : Int) < 3 := by omega
      have ix : ∀ w, (Instr.index 79 (.agg #[.int .i64 n.x, .int .i64 n.y, .int .i64 n.z]) (.int .i64 (i : Int))).run Tryd.prog w = .ok (.int .i64 (n.at i)) w := by
        have : i = 0 ∨ i = 1 ∨ i = 2 := by omega
        rcases this with rfl | rfl | rfl <;> exact fun _ => by kernel_rfl
      have bd := HBD.out i hi
      have pb := HPB.out i hlt
      have l1 := HL.out.1 i hlt
      have l2 := HL.out.2 i hlt
      have CW5 := fun W => Lib.hid (withp_any (ppF n v i) (n.at i) (v.at i) W bd.1 (by omega) (by omega) (by omega) (by omega) (by omega))
      have CW6 := fun W => Lib.hid (withp_any (mmF n v i) (n.at i) (v.at i) W bd.2.2.1 (by omega) (by omega) (by omega) (by omega) (by omega))
      have EP : Hid (ppF n v (i + 1) = ppF n v i + (if sgB (n.at i) (v.at i) = true then ((n.at i).natAbs : Int) * (v.at i).natAbs else 0) ∧ mmF n v (i + 1) = mmF n v i + (if sgB (n.at i) (v.at i) = true then 0 else ((n.at i).natAbs : Int) * (v.at i).natAbs)) := ⟨rfl, rfl⟩
      have CB := HS.out.B.c i hlt
      obtain ⟨P, hP⟩ : ∃ P, ppF n v i = P := ⟨_, rfl⟩
      obtain ⟨M, hM⟩ : ∃ M, mmF n v i = M := ⟨_, rfl⟩
      obtain ⟨x, hx⟩ : ∃ x, n.at i = x := ⟨_, rfl⟩
      obtain ⟨y, hy⟩ : ∃ x, v.at i = x := ⟨_, rfl⟩
      rw [hP, hM] at HS EP
      rw [hP] at CW5
      rw [hM] at CW6
      rw [hx, hy] at CW5 CW6 EP
      rw [hx] at ix
      rw [hy] at CB
      obtain ⟨Q5, hQ5⟩ : ∃ Q, P + (x.natAbs : Int) * y.natAbs = Q := ⟨_, rfl⟩
      obtain ⟨Q6, hQ6⟩ : ∃ Q, M + (x.natAbs : Int) * y.natAbs = Q := ⟨_, rfl⟩
      rw [hQ5] at CW5
      rw [hQ6] at CW6
      obtain ⟨sg, hsg⟩ : ∃ s, sgB x y = s := ⟨_, rfl⟩
      have HSG : Hid ((decide (x < 0) == decide (y < 0)) = sg) := hsg
      have E5 : Hid (sg = true → ppF n v (i + 1) = Q5 ∧ mmF n v (i + 1) = M) := fun h => by rw [EP.out.1, EP.out.2, hsg, if_pos h, if_pos h]; exact ⟨hQ5, by omega⟩
      have E6 : Hid (sg = false → ppF n v (i + 1) = P ∧ mmF n v (i + 1) = Q6) := fun h => by rw [EP.out.1, EP.out.2, hsg, if_neg (by rw [h]; simp), if_neg (by rw [h]; simp)]; exact ⟨by omega, hQ6⟩
      clear bd pb l1 l2 hP hM hx hy hQ5 hQ6 hsg EP
      go_upto_region 5 with fail
      go_cut [20] (fun s wx => s = .bool sg ∧ wx = W1)
      case first =>
        rcases Int.lt_or_le x 0 with h1 | h1 <;> rcases Int.lt_or_le y 0 with h2 | h2
        · have d1 : decide (x < 0) = true := decide_eq_true h1
          have d2 : decide (y < 0) = true := decide_eq_true h2
          have hs : sg = true := by rw [← HSG.out, d1, d2]; rfl
          subst hs
          clear h1 h2
          go_wp2_with fail
          go_meet
          exact ⟨rfl, rfl⟩
        · have d1 : decide (x < 0) = true := decide_eq_true h1
          have d2 : decide (y < 0) = false := decide_eq_false (by omega)
          have hs : sg = false := by rw [← HSG.out, d1, d2]; rfl
          subst hs
          clear h1 h2
          go_wp2_with fail
          go_meet
          exact ⟨rfl, rfl⟩
        · have d1 : decide (x < 0) = false := decide_eq_false (by omega)
          have d2 : decide (y < 0) = true := decide_eq_true h2
          have hs : sg = false := by rw [← HSG.out, d1, d2]; rfl
          subst hs
          clear h1 h2
          go_wp2_with fail
          go_meet
          exact ⟨rfl, rfl⟩
        · have d1 : decide (x < 0) = false := decide_eq_false (by omega)
          have d2 : decide (y < 0) = false := decide_eq_false (by omega)
          have hs : sg = true := by rw [← HSG.out, d1, d2]; rfl
          subst hs
          clear h1 h2
          go_wp2_with fail
          go_meet
          exact ⟨rfl, rfl⟩
      case rest =>
      obtain ⟨rfl, hwc⟩ := hcut
      have hwc2 := hwc.symm
      subst hwc2
      clear hwc HSG
      have LB := Lib.hid (And.intro CB HS.out.B.lt)
      have LP0 := Lib.hid (And.intro HS.out.P5.c0 HS.out.P5.lt)
      have LP1 := Lib.hid (And.intro HS.out.P5.c1 HS.out.P5.lt)
      have LM0 := Lib.hid (And.intro HS.out.M6.c0 HS.out.M6.lt)
      have LM1 := Lib.hid (And.intro HS.out.M6.c1 HS.out.M6.lt)
      clear CB
      cases sg with
      | true =>
        have HE := Lib.hid (E5.out rfl)
        go_upto_region 6 with fail
        refine wp_region_each (fun L A W => ∃ (v : Nat → Value), A = ⟨#[_, _, _, _, _, _, _, _, _, _, _, _, _, _, _, _, _, _, _, _, _, v 21, v 22, v 23, v 24, v 25, v 26, _, _, _, _, _, _, _, _, _, _], []⟩ ∧ VpaR b5 b3 i x y P Q5 W1 L v W) (by kernel_rfl) (by kernel_rfl) ⟨fun jz => if jz = 21 then u21 else if jz = 22 then u22 else if jz = 23 then u23 else if jz = 24 then u24 else if jz = 25 then u25 else if jz = 26 then u26 else undef, rfl, ⟨(fun _ => Below.drew (Below.refl _ _)), Had.none, Had.none, Had.none, Had.none, Had.none, Had.none, Had.none, Had.none, Had.none, Had.none, Had.none⟩⟩ (rs := [0, 1, 2, 3, 4, 5, 6]) (by kernel_rfl) ?_ ?_
        · refine EachOf.cons [] rfl (by kernel_rfl) ?_ ?_
          · rintro L A W ⟨v, rfl, hR⟩ hi hw K hK
            have hk : L 6 = false := hR.w6.not hi rfl
            have q0 := ((hR.st hk).cell (p := ⟨b5, 0, none⟩) LP0.out.2).trans LP0.out.1
            have q1 := ((hR.st hk).cell (p := ⟨b5, 1, none⟩) LP1.out.2).trans LP1.out.1
            go_simp
            refine hK.out _ _ ?_
            exact ⟨(fun jz => if jz = 21 then .agg #[.int .u64 (hiW P), .int .u64 (loW P)] else v jz), rfl, ⟨(fun h => hR.st (upd_false h)), hR.s1.k, hR.w3.o, hR.w4.o, hR.w5.o, hR.w6.o, (fun _ => rfl), hR.f1.k, hR.f2.k, hR.f3.k, hR.f4.k, hR.f5.k⟩⟩
          refine EachOf.cons [] rfl (by kernel_rfl) ?_ ?_
          · rintro L A W ⟨v, rfl, hR⟩ hi hw K hK
            have hk : L 6 = false := hR.w6.not hi rfl
            go_simp
            refine hK.out _ _ ?_
            exact ⟨(fun jz => if jz = 22 then .int .i64 x else v jz), rfl, ⟨(fun h => hR.st (upd_false h)), hR.s1.k, hR.w3.o, hR.w4.o, hR.w5.o, hR.w6.o, hR.f0.k, (fun _ => rfl), hR.f2.k, hR.f3.k, hR.f4.k, hR.f5.k⟩⟩
          refine EachOf.cons [] rfl (by kernel_rfl) ?_ ?_
          · rintro L A W ⟨v, rfl, hR⟩ hi hw K hK
            have hk : L 6 = false := hR.w6.not hi rfl
            go_simp
            refine hK.out _ _ ?_
            exact ⟨(fun jz => if jz = 23 then .int .i64 (i : Int) else v jz), rfl, ⟨(fun h => hR.st (upd_false h)), hR.s1.k, hR.w3.o, hR.w4.o, hR.w5.o, hR.w6.o, hR.f0.k, hR.f1.k, (fun _ => rfl), hR.f3.k, hR.f4.k, hR.f5.k⟩⟩
          refine EachOf.cons [2] rfl (by kernel_rfl) ?_ ?_
          · rintro L A W ⟨v, rfl, hR⟩ hi hw K hK
            have hk : L 6 = false := hR.w6.not hi rfl
            have e2 := hR.f2 (hw 2 (by simp))
            simp only [e2]
            clear e2
            go_simp
            refine hK.out _ _ ?_
            exact ⟨(fun jz => if jz = 23 then .int .i64 (i : Int) else if jz = 24 then .pointer (some ⟨b3, i, none⟩) else v jz), rfl, ⟨(fun h => hR.st (upd_false h)), hR.s1.k, (fun _ j hj => upd_on (hw j hj)), hR.w4.o, hR.w5.o, hR.w6.o, hR.f0.k, hR.f1.k, (fun _ => rfl), (fun _ => rfl), hR.f4.k, hR.f5.k⟩⟩
          refine EachOf.cons [3] rfl (by kernel_rfl) ?_ ?_
          · rintro L A W ⟨v, rfl, hR⟩ hi hw K hK
            have hk : L 6 = false := hR.w6.not hi rfl
            have e3 := hR.f3 (hw 3 (by simp))
            simp only [e3]
            clear e3
            have q0 := ((hR.st hk).cell (p := ⟨b3, i, none⟩) LB.out.2).trans LB.out.1
            go_simp
            refine hK.out _ _ ?_
            exact ⟨(fun jz => if jz = 24 then .pointer (some ⟨b3, i, none⟩) else if jz = 25 then .int .i64 y else v jz), rfl, ⟨(fun h => hR.st (upd_false h)), hR.s1.k, hR.w3.o, (fun _ j hj => upd_on (hw j hj)), hR.w5.o, hR.w6.o, hR.f0.k, hR.f1.k, hR.f2.k, (fun _ => rfl), (fun _ => rfl), hR.f5.k⟩⟩
          refine EachOf.cons [0, 1, 4] rfl (by kernel_rfl) ?_ ?_
          · rintro L A W ⟨v, rfl, hR⟩ hi hw K hK
            have hk : L 6 = false := hR.w6.not hi rfl
            have e0 := hR.f0 (hw 0 (by simp))
            have e1 := hR.f1 (hw 1 (by simp))
            have e4 := hR.f4 (hw 4 (by simp))
            simp only [e0, e1, e4]
            clear e0 e1 e4
            go_simp
            go_at_call 84
            (with_reducible refine ((CW5 _).out).mono ?_)
            rintro e w2 ⟨rfl, hb⟩
            go_simp
            refine hK.out _ _ ?_
            exact ⟨(fun jz => if jz = 21 then .agg #[.int .u64 (hiW P), .int .u64 (loW P)] else if jz = 22 then .int .i64 x else if jz = 25 then .int .i64 y else if jz = 26 then .agg #[.int .u64 (hiW Q5), .int .u64 (loW Q5)] else v jz), rfl, ⟨(fun _ => below_on (hR.st hk) hb), (fun h => absurd (upd_back h rfl) (by simp [hk])), hR.w3.o, hR.w4.o, (fun _ j hj => upd_on (hw j hj)), hR.w6.o, (fun _ => rfl), (fun _ => rfl), hR.f2.k, hR.f3.k, (fun _ => rfl), (fun _ => rfl)⟩⟩
          refine EachOf.cons [0, 1, 2, 3, 4, 5] rfl (by kernel_rfl) ?_ ?_
          · rintro L A W ⟨v, rfl, hR⟩ hi hw K hK
            have e5 := hR.f5 (hw 5 (by simp))
            simp only [e5]
            clear e5
            have hC5 := HS.out.P5.on (hR.st hi)
            have z0 := hC5.c0
            have z1 := hC5.c1
            have y0 := hC5.f 0
            have y1 := hC5.f 1
            have yl := hC5.lt
            clear hC5
            go_simp
            refine hK.out _ _ ?_
            exact ⟨(fun jz => if jz = 26 then .agg #[.int .u64 (hiW Q5), .int .u64 (loW Q5)] else v jz), rfl, ⟨(fun h => by simp [upd_self] at h), (fun _ => ⟨W, hR.st hi, rfl⟩), hR.w3.o, hR.w4.o, hR.w5.o, (fun _ j hj => upd_on (hw j hj)), hR.f0.k, hR.f1.k, hR.f2.k, hR.f3.k, hR.f4.k, (fun _ => rfl)⟩⟩
          exact EachOf.nil
        rintro L A W6 ⟨vs, rfl, hR⟩ hL
        obtain ⟨W4, hb4, hW0⟩ := hR.s1 (hL 6 (by simp))
        have HS6 : Hid (ArS w W6 b2 b3 b5 b6 n v (ppF n v (i + 1)) (mmF n v (i + 1))) := by
          rw [hW0, HE.out.1, HE.out.2]
          exact (HS.out.on hb4).setP Q5
        clear hR hL hb4 hW0 HS LB LP0 LP1 LM0 LM1 CW5 CW6 HE E5 E6 ix
        go_wp2_with fail
        go_roundg (3 - (i + 1))
        case measure => omega
        case rel => exact ⟨i + 1, rfl, rfl, by omega, HS6⟩
      | false =>
        have HE := Lib.hid (E6.out rfl)
        go_upto_region 7 with fail
        refine wp_region_each (fun L A W => ∃ (v : Nat → Value), A = ⟨#[_, _, _, _, _, _, _, _, _, _, _, _, _, _, _, _, _, _, _, _, _, _, _, _, _, _, _, v 27, v 28, v 29, v 30, v 31, v 32, _, _, _, _], []⟩ ∧ VpbR b6 b3 i x y M Q6 W1 L v W) (by kernel_rfl) (by kernel_rfl) ⟨fun jz => if jz = 27 then u27 else if jz = 28 then u28 else if jz = 29 then u29 else if jz = 30 then u30 else if jz = 31 then u31 else if jz = 32 then u32 else undef, rfl, ⟨(fun _ => Below.drew (Below.refl _ _)), Had.none, Had.none, Had.none, Had.none, Had.none, Had.none, Had.none, Had.none, Had.none, Had.none, Had.none⟩⟩ (rs := [0, 1, 2, 3, 4, 5, 6]) (by kernel_rfl) ?_ ?_
        · refine EachOf.cons [] rfl (by kernel_rfl) ?_ ?_
          · rintro L A W ⟨v, rfl, hR⟩ hi hw K hK
            have hk : L 6 = false := hR.w6.not hi rfl
            have q0 := ((hR.st hk).cell (p := ⟨b6, 0, none⟩) LM0.out.2).trans LM0.out.1
            have q1 := ((hR.st hk).cell (p := ⟨b6, 1, none⟩) LM1.out.2).trans LM1.out.1
            go_simp
            refine hK.out _ _ ?_
            exact ⟨(fun jz => if jz = 27 then .agg #[.int .u64 (hiW M), .int .u64 (loW M)] else v jz), rfl, ⟨(fun h => hR.st (upd_false h)), hR.s1.k, hR.w3.o, hR.w4.o, hR.w5.o, hR.w6.o, (fun _ => rfl), hR.f1.k, hR.f2.k, hR.f3.k, hR.f4.k, hR.f5.k⟩⟩
          refine EachOf.cons [] rfl (by kernel_rfl) ?_ ?_
          · rintro L A W ⟨v, rfl, hR⟩ hi hw K hK
            have hk : L 6 = false := hR.w6.not hi rfl
            go_simp
            refine hK.out _ _ ?_
            exact ⟨(fun jz => if jz = 28 then .int .i64 x else v jz), rfl, ⟨(fun h => hR.st (upd_false h)), hR.s1.k, hR.w3.o, hR.w4.o, hR.w5.o, hR.w6.o, hR.f0.k, (fun _ => rfl), hR.f2.k, hR.f3.k, hR.f4.k, hR.f5.k⟩⟩
          refine EachOf.cons [] rfl (by kernel_rfl) ?_ ?_
          · rintro L A W ⟨v, rfl, hR⟩ hi hw K hK
            have hk : L 6 = false := hR.w6.not hi rfl
            go_simp
            refine hK.out _ _ ?_
            exact ⟨(fun jz => if jz = 29 then .int .i64 (i : Int) else v jz), rfl, ⟨(fun h => hR.st (upd_false h)), hR.s1.k, hR.w3.o, hR.w4.o, hR.w5.o, hR.w6.o, hR.f0.k, hR.f1.k, (fun _ => rfl), hR.f3.k, hR.f4.k, hR.f5.k⟩⟩
          refine EachOf.cons [2] rfl (by kernel_rfl) ?_ ?_
          · rintro L A W ⟨v, rfl, hR⟩ hi hw K hK
            have hk : L 6 = false := hR.w6.not hi rfl
            have e2 := hR.f2 (hw 2 (by simp))
            simp only [e2]
            clear e2
            go_simp
            refine hK.out _ _ ?_
            exact ⟨(fun jz => if jz = 29 then .int .i64 (i : Int) else if jz = 30 then .pointer (some ⟨b3, i, none⟩) else v jz), rfl, ⟨(fun h => hR.st (upd_false h)), hR.s1.k, (fun _ j hj => upd_on (hw j hj)), hR.w4.o, hR.w5.o, hR.w6.o, hR.f0.k, hR.f1.k, (fun _ => rfl), (fun _ => rfl), hR.f4.k, hR.f5.k⟩⟩
          refine EachOf.cons [3] rfl (by kernel_rfl) ?_ ?_
          · rintro L A W ⟨v, rfl, hR⟩ hi hw K hK
            have hk : L 6 = false := hR.w6.not hi rfl
            have e3 := hR.f3 (hw 3 (by simp))
            simp only [e3]
            clear e3
            have q0 := ((hR.st hk).cell (p := ⟨b3, i, none⟩) LB.out.2).trans LB.out.1
            go_simp
            refine hK.out _ _ ?_
            exact ⟨(fun jz => if jz = 30 then .pointer (some ⟨b3, i, none⟩) else if jz = 31 then .int .i64 y else v jz), rfl, ⟨(fun h => hR.st (upd_false h)), hR.s1.k, hR.w3.o, (fun _ j hj => upd_on (hw j hj)), hR.w5.o, hR.w6.o, hR.f0.k, hR.f1.k, hR.f2.k, (fun _ => rfl), (fun _ => rfl), hR.f5.k⟩⟩
          refine EachOf.cons [0, 1, 4] rfl (by kernel_rfl) ?_ ?_
          · rintro L A W ⟨v, rfl, hR⟩ hi hw K hK
            have hk : L 6 = false := hR.w6.not hi rfl
            have e0 := hR.f0 (hw 0 (by simp))
            have e1 := hR.f1 (hw 1 (by simp))
            have e4 := hR.f4 (hw 4 (by simp))
            simp only [e0, e1, e4]
            clear e0 e1 e4
            go_simp
            go_at_call 84
            (with_reducible refine ((CW6 _).out).mono ?_)
            rintro e w2 ⟨rfl, hb⟩
            go_simp
            refine hK.out _ _ ?_
            exact ⟨(fun jz => if jz = 27 then .agg #[.int .u64 (hiW M), .int .u64 (loW M)] else if jz = 28 then .int .i64 x else if jz = 31 then .int .i64 y else if jz = 32 then .agg #[.int .u64 (hiW Q6), .int .u64 (loW Q6)] else v jz), rfl, ⟨(fun _ => below_on (hR.st hk) hb), (fun h => absurd (upd_back h rfl) (by simp [hk])), hR.w3.o, hR.w4.o, (fun _ j hj => upd_on (hw j hj)), hR.w6.o, (fun _ => rfl), (fun _ => rfl), hR.f2.k, hR.f3.k, (fun _ => rfl), (fun _ => rfl)⟩⟩
          refine EachOf.cons [0, 1, 2, 3, 4, 5] rfl (by kernel_rfl) ?_ ?_
          · rintro L A W ⟨v, rfl, hR⟩ hi hw K hK
            have e5 := hR.f5 (hw 5 (by simp))
            simp only [e5]
            clear e5
            have hC5 := HS.out.M6.on (hR.st hi)
            have z0 := hC5.c0
            have z1 := hC5.c1
            have y0 := hC5.f 0
            have y1 := hC5.f 1
            have yl := hC5.lt
            clear hC5
            go_simp
            refine hK.out _ _ ?_
            exact ⟨(fun jz => if jz = 32 then .agg #[.int .u64 (hiW Q6), .int .u64 (loW Q6)] else v jz), rfl, ⟨(fun h => by simp [upd_self] at h), (fun _ => ⟨W, hR.st hi, rfl⟩), hR.w3.o, hR.w4.o, hR.w5.o, (fun _ j hj => upd_on (hw j hj)), hR.f0.k, hR.f1.k, hR.f2.k, hR.f3.k, hR.f4.k, (fun _ => rfl)⟩⟩
          exact EachOf.nil
        rintro L A W6 ⟨vs, rfl, hR⟩ hL
        obtain ⟨W4, hb4, hW0⟩ := hR.s1 (hL 6 (by simp))
        have HS6 : Hid (ArS w W6 b2 b3 b5 b6 n v (ppF n v (i + 1)) (mmF n v (i + 1))) := by
          rw [hW0, HE.out.1, HE.out.2]
          exact (HS.out.on hb4).setM Q6
        clear hR hL hb4 hW0 HS LB LP0 LP1 LM0 LM1 CW5 CW6 HE E5 E6 ix
        go_wp2_with fail
        go_roundg (3 - (i + 1))
        case measure => omega
        case rel => exact ⟨i + 1, rfl, rfl, by omega, HS6⟩
    · have e : i = 3 := by omega
      subst e
      have li : ¬ ((3 : Nat) : Int) < 3 := by omega
      have bd := HBD.out 3 (by omega)
      have hd := HD.out
      obtain ⟨P, hP⟩ : ∃ P, ppF n v 3 = P := ⟨_, rfl⟩
      obtain ⟨M, hM⟩ : ∃ M, mmF n v 3 = M := ⟨_, rfl⟩
      rw [hP, hM] at HS bd hd
      have p0 := HS.out.P5.c0
      have p1 := HS.out.P5.c1
      have m0 := HS.out.M6.c0
      have m1 := HS.out.M6.c1
      have HB := Lib.hid HS.out.st
      by_cases hPM : P = M
      · have HE : Hid (res = true) := by show res = true; rw [← HR.out]; exact decide_eq_true (by omega)
        rw [hPM] at p0 p1
        clear hPM hd bd hP hM HS HR HD HBD HPB HL hi hlt
        go_wp2_with fail
        go_ret
        exact ⟨by rw [HE.out]; simp, HB.out⟩
      · have HE : Hid (res = false) := by show res = false; rw [← HR.out]; exact decide_eq_false (by omega)
        have hne : ¬ (hiW P = hiW M ∧ loW P = loW M) := by unfold hiW loW; omega
        obtain ⟨ph, hph⟩ : ∃ x, hiW P = x := ⟨_, rfl⟩
        obtain ⟨pl, hpl⟩ : ∃ x, loW P = x := ⟨_, rfl⟩
        obtain ⟨mh, hmh⟩ : ∃ x, hiW M = x := ⟨_, rfl⟩
        obtain ⟨ml, hml⟩ : ∃ x, loW M = x := ⟨_, rfl⟩
        rw [hph] at p0 hne
        rw [hpl] at p1 hne
        rw [hmh] at m0 hne
        rw [hml] at m1 hne
        clear hPM hd bd hP hM HS HR HD HBD HPB HL hi hlt hph hpl hmh hml
        have HNE := Lib.hid hne
        clear hne
        go_wp2_with fail
        all_goals
          go_ret
          exact ⟨by rw [HE.out]; first | rfl | (exfalso; have := HNE.out; simp_all), HB.out⟩
end Go.Proofs.YtcghjjfpjiacfaaDoor
