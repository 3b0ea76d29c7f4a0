/- Layer 9: a normal of points. -/
import Derived.Test.YtcghjjfpjiacfaaDoorVF3
import Derived.ChangeKeysEq
namespace Go.Proofs.YtcghjjfpjiacfaaDoor
open Go.ChangeShapes Go.WideShapes Go.ChangeAt Go.RowKit Go.Joins Go.Deep Go.Shelf
set_option linter.unusedVariables false

theorem veq_any (x y z x' y' z' : Int) (w : World) : (Op.equalIn 10000 79 (.agg #[.int .i64 x, .int .i64 y, .int .i64 z]) (.agg #[.int .i64 x', .int .i64 y', .int .i64 z'])).run Tryd.prog w = .ok (decide (x = x' ∧ y = y' ∧ z = z')) w := by
  rw [show (10000 : Nat) = 9999 + 1 from rfl, run_equalIn_array (t := 79) (e := 3) (n := 3) w 9999 _ _ (by kernel_rfl) (i := (Tryd.prog.info? 3).get (by kernel_rfl)) (by kernel_rfl)]
  have hi := fun (a b : Int) (w : World) => run_equalIn_int (P := Tryd.prog) w 9998 3 .i64 .i64 a b (by kernel_rfl)
  have p0 : ∀ (a b c : Int) (w : World), (part 3 #[.int .i64 a, .int .i64 b, .int .i64 c] (0 * 1)).run Tryd.prog w = .ok (.int .i64 a) w := fun a b c w => by kernel_rfl
  have p1 : ∀ (a b c : Int) (w : World), (part 3 #[.int .i64 a, .int .i64 b, .int .i64 c] (1 * 1)).run Tryd.prog w = .ok (.int .i64 b) w := fun a b c w => by kernel_rfl
  have p2 : ∀ (a b c : Int) (w : World), (part 3 #[.int .i64 a, .int .i64 b, .int .i64 c] (2 * 1)).run Tryd.prog w = .ok (.int .i64 c) w := fun a b c w => by kernel_rfl
  rw [show Tryd.prog.cellsOf 3 = 1 by kernel_rfl, show List.range 3 = [0, 1, 2] from rfl]
  simp only [Op.eqItems, Sem.run_bind, p0, hi, Result.andThen_ok]
  by_cases h0 : x = x' <;> by_cases h1 : y = y' <;> by_cases h2 : z = z' <;> simp [h0, h1, h2, hi, p1, p2]
/-- What the first normal is, or that there is none. -/
def NrmQ (n : Nat) (f : Nat → Pt) (r : Pt) : Prop := (r.zero ∧ ∀ i j, i < n → j < i → (((f i).sub (f 0)).crs ((f j).sub (f 0))).zero) ∨ (∃ i j, i < n ∧ j < i ∧ r = ((f i).sub (f 0)).crs ((f j).sub (f 0)) ∧ ¬ r.zero)
theorem nrm_flat (n : Nat) (f : Nat → Pt) (r : Pt) (h : NrmQ n f r) : (∀ k, k < n → r.dot ((f k).sub (f 0)) = 0) ↔ FlatQ n f := by
  rcases h with ⟨h1, h2⟩ | ⟨i, j, hi, hj, rfl, hz⟩
  · refine ⟨fun _ => flat_of_none n f h2, fun _ k hk => ?_⟩
    unfold Pt.dot
    rw [h1.1, h1.2.1, h1.2.2]; omega
  · exact flat_of_normal n f i j hi (by omega) hz
theorem nrm_lim {n : Nat} {f : Nat → Pt} {r : Pt} (h : NrmQ n f r) (hv : allV n f) : lim3 r 8796093022208 := by
  rcases h with ⟨h1, h2⟩ | ⟨i, j, hi, hj, rfl, hz⟩
  · intro k hk
    have : r.at k = 0 := by
      unfold Pt.at
      split
      · exact h1.1
      · split
        · exact h1.2.1
        · exact h1.2.2
    omega
  · exact crs_lim (sub_lim (hv i hi) (hv 0 (by omega))) (sub_lim (hv j (by omega)) (hv 0 (by omega)))
structure NrS (w W : World) (b2 sg o n : Nat) (f : Nat → Pt) : Prop where
  st : Below w.heap.size w W
  O : B3 W b2 0 0 0
  lo : w.heap.size ≤ b2
  hg : sg < W.heap.size
  p : PR W
  c : ∀ i, i < n → W.cell? ⟨sg, o + i * 3, none⟩ = some (.int .i64 (f i).x) ∧ W.cell? ⟨sg, o + i * 3 + 1, none⟩ = some (.int .i64 (f i).y) ∧ W.cell? ⟨sg, o + i * 3 + 2, none⟩ = some (.int .i64 (f i).z)
theorem NrS.on {w W W2 : World} {b2 sg o n : Nat} {f : Nat → Pt} (h : NrS w W b2 sg o n f) (hb : Below W.heap.size W W2) : NrS w W2 b2 sg o n f :=
  ⟨below_on h.st hb, h.O.on hb, h.lo, Nat.lt_of_lt_of_le h.hg hb.size, h.p.on hb, fun i hi => ⟨(hb.cell (p := ⟨sg, o + i * 3, none⟩) h.hg).trans (h.c i hi).1, (hb.cell (p := ⟨sg, o + i * 3 + 1, none⟩) h.hg).trans (h.c i hi).2.1, (hb.cell (p := ⟨sg, o + i * 3 + 2, none⟩) h.hg).trans (h.c i hi).2.2⟩⟩
theorem diffS_any (a b : Pt) (w : World) (ha : a.ok) (hb : b.ok) : Calls Tryd.prog 47 #[.agg #[.int .i64 a.x, .int .i64 a.y, .int .i64 a.z], .agg #[.int .i64 b.x, .int .i64 b.y, .int .i64 b.z]] w fun e w' => e = .returned (.agg #[.int .i64 (b.sub a).x, .int .i64 (b.sub a).y, .int .i64 (b.sub a).z]) ∧ Below w.heap.size w w' := diff_any a b w ha hb
structure VnmR (sg o n rc b4 b6 : Nat) (a b p u pv c : Pt) (Wc : World) (L : Nat → Bool) (v : Nat → Value) (g : Nat → Nat) (W : World) : Prop where
  st : Below Wc.heap.size Wc W
  b11 : Had L 11 (Wc.heap.size ≤ g 11 ∧ g 11 < W.heap.size)
  z11 : Had L 11 (L 12 = false → CB W (g 11) [.int .i64 0, .int .i64 0, .int .i64 0])
  y12 : Had L 12 (CB W (g 11) [.int .i64 c.x, .int .i64 c.y, .int .i64 c.z])
  w1 : Had L 1 (∀ j ∈ [0], L j = true)
  w2 : Had L 2 (∀ j ∈ [1], L j = true)
  w4 : Had L 4 (∀ j ∈ [2, 3], L j = true)
  w6 : Had L 6 (∀ j ∈ [5], L j = true)
  w7 : Had L 7 (∀ j ∈ [6], L j = true)
  w9 : Had L 9 (∀ j ∈ [7, 8], L j = true)
  w10 : Had L 10 (∀ j ∈ [4, 9], L j = true)
  w12 : Had L 12 (∀ j ∈ [0, 1, 2, 3, 4, 5, 6, 7, 8, 9, 10, 11], L j = true)
  f0 : Had L 0 (v 23 = .slice (some ⟨sg, o, none⟩) (n) (rc))
  f1 : Had L 1 (v 24 = .pointer (some ⟨sg, o, none⟩))
  f2 : Had L 2 (v 25 = .agg #[.int .i64 p.x, .int .i64 p.y, .int .i64 p.z])
  f3 : Had L 3 (v 26 = .agg #[.int .i64 a.x, .int .i64 a.y, .int .i64 a.z])
  f4 : Had L 4 (v 27 = .agg #[.int .i64 u.x, .int .i64 u.y, .int .i64 u.z])
  f5 : Had L 5 (v 28 = .slice (some ⟨sg, o, none⟩) (n) (rc))
  f6 : Had L 6 (v 29 = .pointer (some ⟨sg, o, none⟩))
  f7 : Had L 7 (v 30 = .agg #[.int .i64 p.x, .int .i64 p.y, .int .i64 p.z])
  f8 : Had L 8 (v 31 = .agg #[.int .i64 b.x, .int .i64 b.y, .int .i64 b.z])
  f9 : Had L 9 (v 32 = .agg #[.int .i64 pv.x, .int .i64 pv.y, .int .i64 pv.z])
  f10 : Had L 10 (v 33 = .agg #[.int .i64 c.x, .int .i64 c.y, .int .i64 c.z])
  f11 : Had L 11 (v 7 = .pointer (some ⟨g 11, 0, none⟩))
set_option maxRecDepth 100000 in
set_option maxHeartbeats 16000000 in
theorem normal_any (sg o n rc : Nat) (f : Nat → Pt) (w : World) (hp : PR w) (hg : sg < w.heap.size) (hc : ∀ i, i < n → w.cell? ⟨sg, o + i * 3, none⟩ = some (.int .i64 (f i).x) ∧ w.cell? ⟨sg, o + i * 3 + 1, none⟩ = some (.int .i64 (f i).y) ∧ w.cell? ⟨sg, o + i * 3 + 2, none⟩ = some (.int .i64 (f i).z)) (hv : allV n f) (hn : n ≤ 20) (hrc : n ≤ rc) (hrc2 : rc ≤ 9223372036854775807) (h0 : 0 < n) :
    Calls Tryd.prog 43 #[.slice (some ⟨sg, o, none⟩) n rc] w fun e w' => (∃ r : Pt, e = .returned (.agg #[.int .i64 r.x, .int .i64 r.y, .int .i64 r.z]) ∧ NrmQ n f r) ∧ Below w.heap.size w w' := by
  obtain ⟨w1, hw1⟩ : ∃ W, W = w.alloc (Obj.cells #[.int .i64 0, .int .i64 0, .int .i64 0] 79) := ⟨_, rfl⟩
  obtain ⟨b2, hb2⟩ : ∃ x, x = w.heap.size := ⟨_, rfl⟩
  have bl := below_alloc w (Obj.cells #[.int .i64 0, .int .i64 0, .int .i64 0] 79)
  have hO : B3 w1 b2 0 0 0 := by rw [hw1, hb2]; exact B3.new _ _ _ _ _
  rw [← hw1] at bl
  have HS : Hid (NrS w w1 b2 sg o n f) := ⟨bl, hO, by omega, Nat.lt_of_lt_of_le hg bl.size, hp.on bl, fun i hi => ⟨(bl.cell (p := ⟨sg, o + i * 3, none⟩) hg).trans (hc i hi).1, (bl.cell (p := ⟨sg, o + i * 3 + 1, none⟩) hg).trans (hc i hi).2.1, (bl.cell (p := ⟨sg, o + i * 3 + 2, none⟩) hg).trans (hc i hi).2.2⟩⟩
  have HN : Hid (b2 = w.heap.size ∧ w1 = w.alloc (Obj.cells #[.int .i64 0, .int .i64 0, .int .i64 0] 79)) := ⟨hb2, hw1⟩
  have HV := Lib.hid hv
  have S0 : Hid (∀ i j, i < 0 → j < i → (((f i).sub (f 0)).crs ((f j).sub (f 0))).zero) := fun i j h => by omega
  clear hO bl hw1 hb2 hp hg hc hv
  go_enter Tryd.func43, Tryd.ntmps43
  go_upto_region 1 with fail
  rw [← HN.out.2, ← HN.out.1]
  clear HN
  go_wp2_with fail
  go_loopg [10] n (fun mm s10 wx => ∃ i : Nat, s10 = .int .i64 (i : Int) ∧ mm = n - i ∧ i ≤ n ∧ Hid (NrS w wx b2 sg o n f) ∧ Hid (∀ i2 j, i2 < i → j < i2 → (((f i2).sub (f 0)).crs ((f j).sub (f 0))).zero))
  case atStart => exact ⟨0, rfl, rfl, by omega, HS, S0⟩
  case round =>
    clear HS S0
    obtain ⟨i, rfl, rfl, hi, HS, HZ⟩ := hrel
    rename World => W1
    by_cases hlt : i < n
    · have wi : IntKind.i64.wrap ((i : Int) + 1) = ((i + 1 : Nat) : Int) := by rw [IntWalk.i64_in _ (by omega)]; omega
      have li : (i : Int) < (n : Int) := by omega
      have hci := HS.out.c i hlt
      obtain ⟨a, ha⟩ : ∃ a, f i = a := ⟨_, rfl⟩
      have HA := Lib.hid ha
      rw [ha] at hci
      have c0 := hci.1
      have c1 := hci.2.1
      have c2 := hci.2.2
      have bl := below_alloc W1 (Obj.cells #[.int .i64 a.x, .int .i64 a.y, .int .i64 a.z] 23)
      have hB4 := B3.new W1 a.x a.y a.z 23
      have HS2 := Lib.hid (HS.out.on bl)
      obtain ⟨W2, hW2⟩ : ∃ W, W = W1.alloc (Obj.cells #[.int .i64 a.x, .int .i64 a.y, .int .i64 a.z] 23) := ⟨_, rfl⟩
      obtain ⟨b4, hb4⟩ : ∃ x, x = W1.heap.size := ⟨_, rfl⟩
      rw [← hW2] at hB4 HS2
      rw [← hb4] at hB4
      have HB4 := Lib.hid hB4
      have HN : Hid (W2 = W1.alloc (Obj.cells #[.int .i64 a.x, .int .i64 a.y, .int .i64 a.z] 23) ∧ b4 = W1.heap.size) := ⟨hW2, hb4⟩
      have lic : (i : Int) ≤ (rc : Int) := by omega
      have li0 : (0 : Int) ≤ (i : Int) := by omega
      clear ha hci bl hB4 hW2 hb4
      go_upto_region 4 with fail
      rw [← HN.out.1, ← HN.out.2]
      clear HN c0 c1 c2 HS
      go_wp2_with fail
      go_loopg [19] i (fun mi s19 wx => ∃ j : Nat, s19 = .int .i64 (j : Int) ∧ mi = i - j ∧ j ≤ i ∧ Hid (NrS w wx b2 sg o n f ∧ B3 wx b4 a.x a.y a.z) ∧ Hid (∀ j2, j2 < j → ((a.sub (f 0)).crs ((f j2).sub (f 0))).zero))
      case atStart => exact ⟨0, rfl, rfl, by omega, ⟨HS2.out, HB4.out⟩, fun j h => by omega⟩
      case round =>
        clear HS2 HB4
        obtain ⟨j, rfl, rfl, hj, HS, HY⟩ := hrel
        rename World => W3
        by_cases hjt : j < i
        · have wj : IntKind.i64.wrap ((j : Int) + 1) = ((j + 1 : Nat) : Int) := by rw [IntWalk.i64_in _ (by omega)]; omega
          have lj : (j : Int) < (i : Int) := by omega
          have hcj := HS.out.1.c j (by omega)
          obtain ⟨b, hb⟩ : ∃ b, f j = b := ⟨_, rfl⟩
          have HBj := Lib.hid hb
          rw [hb] at hcj
          have c0 := hcj.1
          have c1 := hcj.2.1
          have c2 := hcj.2.2
          have bl := below_alloc W3 (Obj.cells #[.int .i64 b.x, .int .i64 b.y, .int .i64 b.z] 23)
          have hB6 := B3.new W3 b.x b.y b.z 23
          have HS4 : Hid (NrS w (W3.alloc (Obj.cells #[.int .i64 b.x, .int .i64 b.y, .int .i64 b.z] 23)) b2 sg o n f ∧ B3 (W3.alloc (Obj.cells #[.int .i64 b.x, .int .i64 b.y, .int .i64 b.z] 23)) b4 a.x a.y a.z) := ⟨HS.out.1.on bl, HS.out.2.on bl⟩
          obtain ⟨W4, hW4⟩ : ∃ W, W = W3.alloc (Obj.cells #[.int .i64 b.x, .int .i64 b.y, .int .i64 b.z] 23) := ⟨_, rfl⟩
          obtain ⟨b6, hb6⟩ : ∃ x, x = W3.heap.size := ⟨_, rfl⟩
          rw [← hW4] at hB6 HS4
          rw [← hb6] at hB6
          have HN : Hid (W4 = W3.alloc (Obj.cells #[.int .i64 b.x, .int .i64 b.y, .int .i64 b.z] 23) ∧ b6 = W3.heap.size) := ⟨hW4, hb6⟩
          have LB0 := Lib.hid (And.intro hB6.c0 hB6.lt)
          have LB1 := Lib.hid (And.intro hB6.c1 hB6.lt)
          have LB2 := Lib.hid (And.intro hB6.c2 hB6.lt)
          clear hb hcj bl hB6 hW4 hb6
          go_upto_region 7 with fail
          rw [← HN.out.1, ← HN.out.2]
          clear HN c0 c1 c2 HS
          have LA0 := Lib.hid (And.intro HS4.out.2.c0 HS4.out.2.lt)
          have LA1 := Lib.hid (And.intro HS4.out.2.c1 HS4.out.2.lt)
          have LA2 := Lib.hid (And.intro HS4.out.2.c2 HS4.out.2.lt)
          have hc0 := HS4.out.1.c 0 (by omega)
          rw [Nat.zero_mul, Nat.add_zero] at hc0
          have LO0 := Lib.hid (And.intro hc0.1 HS4.out.1.hg)
          have LO1 := Lib.hid (And.intro hc0.2.1 HS4.out.1.hg)
          have LO2 := Lib.hid (And.intro hc0.2.2 HS4.out.1.hg)
          have okA : a.ok := by rw [← HA.out]; exact HV.out i hlt
          have okB' : b.ok := by rw [← HBj.out]; exact HV.out j (by omega)
          have ok0 : (f 0).ok := HV.out 0 (by omega)
          have CU := fun W => Lib.hid (diffS_any (f 0) a W ok0 okA)
          have CV := fun W => Lib.hid (diffS_any (f 0) b W ok0 okB')
          have lu := sub_lim okA ok0
          have lv := sub_lim okB' ok0
          obtain ⟨p, hp⟩ : ∃ p, f 0 = p := ⟨_, rfl⟩
          have HP0 := Lib.hid hp
          rw [hp] at LO0 LO1 LO2 CU CV lu lv
          have HPR := Lib.hid HS4.out.1.p
          obtain ⟨u, hu⟩ : ∃ u, a.sub p = u := ⟨_, rfl⟩
          obtain ⟨pv, hvv⟩ : ∃ u, b.sub p = u := ⟨_, rfl⟩
          rw [hu] at CU lu
          rw [hvv] at CV lv
          have CC : Hid (∀ W, Below W4.heap.size W4 W → Calls Tryd.prog 82 #[.agg #[.int .i64 u.x, .int .i64 u.y, .int .i64 u.z], .agg #[.int .i64 pv.x, .int .i64 pv.y, .int .i64 pv.z]] W fun e w' => e = .returned (.agg #[.int .i64 (u.crs pv).x, .int .i64 (u.crs pv).y, .int .i64 (u.crs pv).z]) ∧ Below W.heap.size W w') := fun W hW => cross_any u pv W (HPR.out.on hW) lu lv
          have HC : Hid (((f i).sub (f 0)).crs ((f j).sub (f 0)) = u.crs pv ∧ (a.sub (f 0)).crs ((f j).sub (f 0)) = u.crs pv) := by
            rw [HA.out, HBj.out, hp, hu, hvv]
            exact ⟨rfl, rfl⟩
          obtain ⟨c, hcc⟩ : ∃ c, u.crs pv = c := ⟨_, rfl⟩
          rw [hcc] at CC HC
          clear hc0 okA okB' ok0 lu lv hp hu hvv hcc
          have lz : (0 : Int) < (n : Int) := by omega
          refine wp_region_each (fun L A W => ∃ (v : Nat → Value) (g : Nat → Nat), A = ⟨#[_, _, _, _, _, _, _, v 7, _, _, _, _, _, _, _, _, _, _, _, _, _, _, _, v 23, v 24, v 25, v 26, v 27, v 28, v 29, v 30, v 31, v 32, v 33, _, _, _, _, _, _, _], []⟩ ∧ VnmR sg o n rc b4 b6 a b p u pv c W4 L v g W) (by kernel_rfl) (by kernel_rfl) ⟨fun jz => if jz = 23 then u23 else if jz = 24 then u24 else if jz = 25 then u25 else if jz = 26 then u26 else if jz = 27 then u27 else if jz = 28 then u28 else if jz = 29 then u29 else if jz = 30 then u30 else if jz = 31 then u31 else if jz = 32 then u32 else if jz = 33 then u33 else if jz = 7 then u7 else undef, fun _ => 0, rfl, ⟨(Below.drew (Below.refl _ _)), Had.none, Had.none, Had.none, Had.none, Had.none, Had.none, Had.none, Had.none, Had.none, Had.none, Had.none, Had.none, Had.none, Had.none, Had.none, Had.none, Had.none, Had.none, Had.none, Had.none, Had.none, Had.none, Had.none⟩⟩ (rs := [0, 1, 2, 3, 4, 5, 6, 7, 8, 9, 10, 11, 12]) (by kernel_rfl) ?_ ?_
          · refine EachOf.cons [] rfl (by kernel_rfl) ?_ ?_
            · rintro L A W ⟨v, g, rfl, hR⟩ hi hw KK hK
              go_simp
              refine hK.out _ _ ?_
              exact ⟨(fun jz => if jz = 23 then .slice (some ⟨sg, o, none⟩) (n) (rc) else v jz), g, rfl, ⟨hR.st, hR.b11.k, (fun h h2 => hR.z11 (upd_back h rfl) (upd_false h2)), (fun h => hR.y12 (upd_back h rfl)), hR.w1.o, hR.w2.o, hR.w4.o, hR.w6.o, hR.w7.o, hR.w9.o, hR.w10.o, hR.w12.o, (fun _ => rfl), hR.f1.k, hR.f2.k, hR.f3.k, hR.f4.k, hR.f5.k, hR.f6.k, hR.f7.k, hR.f8.k, hR.f9.k, hR.f10.k, hR.f11.k⟩⟩
            refine EachOf.cons [0] rfl (by kernel_rfl) ?_ ?_
            · rintro L A W ⟨v, g, rfl, hR⟩ hi hw KK hK
              have e0 := hR.f0 (hw 0 (by simp))
              simp only [e0]
              clear e0
              go_simp
              refine hK.out _ _ ?_
              exact ⟨(fun jz => if jz = 23 then .slice (some ⟨sg, o, none⟩) (n) (rc) else if jz = 24 then .pointer (some ⟨sg, o, none⟩) else v jz), g, rfl, ⟨hR.st, hR.b11.k, (fun h h2 => hR.z11 (upd_back h rfl) (upd_false h2)), (fun h => hR.y12 (upd_back h rfl)), (fun _ j hj => upd_on (hw j hj)), hR.w2.o, hR.w4.o, hR.w6.o, hR.w7.o, hR.w9.o, hR.w10.o, hR.w12.o, (fun _ => rfl), (fun _ => rfl), hR.f2.k, hR.f3.k, hR.f4.k, hR.f5.k, hR.f6.k, hR.f7.k, hR.f8.k, hR.f9.k, hR.f10.k, hR.f11.k⟩⟩
            refine EachOf.cons [1] rfl (by kernel_rfl) ?_ ?_
            · rintro L A W ⟨v, g, rfl, hR⟩ hi hw KK hK
              have e1 := hR.f1 (hw 1 (by simp))
              simp only [e1]
              clear e1
              have q0 := (hR.st.cell (p := ⟨sg, o, none⟩) LO0.out.2).trans LO0.out.1
              have q1 := (hR.st.cell (p := ⟨sg, o + 1, none⟩) LO1.out.2).trans LO1.out.1
              have q2 := (hR.st.cell (p := ⟨sg, o + 2, none⟩) LO2.out.2).trans LO2.out.1
              go_simp
              refine hK.out _ _ ?_
              exact ⟨(fun jz => if jz = 24 then .pointer (some ⟨sg, o, none⟩) else if jz = 25 then .agg #[.int .i64 p.x, .int .i64 p.y, .int .i64 p.z] else v jz), g, rfl, ⟨hR.st, hR.b11.k, (fun h h2 => hR.z11 (upd_back h rfl) (upd_false h2)), (fun h => hR.y12 (upd_back h rfl)), hR.w1.o, (fun _ j hj => upd_on (hw j hj)), hR.w4.o, hR.w6.o, hR.w7.o, hR.w9.o, hR.w10.o, hR.w12.o, hR.f0.k, (fun _ => rfl), (fun _ => rfl), hR.f3.k, hR.f4.k, hR.f5.k, hR.f6.k, hR.f7.k, hR.f8.k, hR.f9.k, hR.f10.k, hR.f11.k⟩⟩
            refine EachOf.cons [] rfl (by kernel_rfl) ?_ ?_
            · rintro L A W ⟨v, g, rfl, hR⟩ hi hw KK hK
              have q0 := (hR.st.cell (p := ⟨b4, 0, none⟩) LA0.out.2).trans LA0.out.1
              have q1 := (hR.st.cell (p := ⟨b4, 1, none⟩) LA1.out.2).trans LA1.out.1
              have q2 := (hR.st.cell (p := ⟨b4, 2, none⟩) LA2.out.2).trans LA2.out.1
              go_simp
              refine hK.out _ _ ?_
              exact ⟨(fun jz => if jz = 26 then .agg #[.int .i64 a.x, .int .i64 a.y, .int .i64 a.z] else v jz), g, rfl, ⟨hR.st, hR.b11.k, (fun h h2 => hR.z11 (upd_back h rfl) (upd_false h2)), (fun h => hR.y12 (upd_back h rfl)), hR.w1.o, hR.w2.o, hR.w4.o, hR.w6.o, hR.w7.o, hR.w9.o, hR.w10.o, hR.w12.o, hR.f0.k, hR.f1.k, hR.f2.k, (fun _ => rfl), hR.f4.k, hR.f5.k, hR.f6.k, hR.f7.k, hR.f8.k, hR.f9.k, hR.f10.k, hR.f11.k⟩⟩
            refine EachOf.cons [2, 3] rfl (by kernel_rfl) ?_ ?_
            · rintro L A W ⟨v, g, rfl, hR⟩ hi hw KK hK
              have e2 := hR.f2 (hw 2 (by simp))
              have e3 := hR.f3 (hw 3 (by simp))
              simp only [e2, e3]
              clear e2 e3
              go_simp
              go_at_call 47
              (with_reducible refine ((CU _).out).mono ?_)
              rintro e w2 ⟨rfl, hb⟩
              go_simp
              refine hK.out _ _ ?_
              exact ⟨(fun jz => if jz = 25 then .agg #[.int .i64 p.x, .int .i64 p.y, .int .i64 p.z] else if jz = 26 then .agg #[.int .i64 a.x, .int .i64 a.y, .int .i64 a.z] else if jz = 27 then .agg #[.int .i64 u.x, .int .i64 u.y, .int .i64 u.z] else v jz), g, rfl, ⟨below_on hR.st hb, (fun h => ⟨(hR.b11 (upd_back h rfl)).1, Nat.lt_of_lt_of_le (hR.b11 (upd_back h rfl)).2 hb.size⟩), (fun h h2 => (hR.z11 (upd_back h rfl) (upd_false h2)).on hb), (fun h => (hR.y12 (upd_back h rfl)).on hb), hR.w1.o, hR.w2.o, (fun _ j hj => upd_on (hw j hj)), hR.w6.o, hR.w7.o, hR.w9.o, hR.w10.o, hR.w12.o, hR.f0.k, hR.f1.k, (fun _ => rfl), (fun _ => rfl), (fun _ => rfl), hR.f5.k, hR.f6.k, hR.f7.k, hR.f8.k, hR.f9.k, hR.f10.k, hR.f11.k⟩⟩
            refine EachOf.cons [] rfl (by kernel_rfl) ?_ ?_
            · rintro L A W ⟨v, g, rfl, hR⟩ hi hw KK hK
              go_simp
              refine hK.out _ _ ?_
              exact ⟨(fun jz => if jz = 28 then .slice (some ⟨sg, o, none⟩) (n) (rc) else v jz), g, rfl, ⟨hR.st, hR.b11.k, (fun h h2 => hR.z11 (upd_back h rfl) (upd_false h2)), (fun h => hR.y12 (upd_back h rfl)), hR.w1.o, hR.w2.o, hR.w4.o, hR.w6.o, hR.w7.o, hR.w9.o, hR.w10.o, hR.w12.o, hR.f0.k, hR.f1.k, hR.f2.k, hR.f3.k, hR.f4.k, (fun _ => rfl), hR.f6.k, hR.f7.k, hR.f8.k, hR.f9.k, hR.f10.k, hR.f11.k⟩⟩
            refine EachOf.cons [5] rfl (by kernel_rfl) ?_ ?_
            · rintro L A W ⟨v, g, rfl, hR⟩ hi hw KK hK
              have e5 := hR.f5 (hw 5 (by simp))
              simp only [e5]
              clear e5
              go_simp
              refine hK.out _ _ ?_
              exact ⟨(fun jz => if jz = 28 then .slice (some ⟨sg, o, none⟩) (n) (rc) else if jz = 29 then .pointer (some ⟨sg, o, none⟩) else v jz), g, rfl, ⟨hR.st, hR.b11.k, (fun h h2 => hR.z11 (upd_back h rfl) (upd_false h2)), (fun h => hR.y12 (upd_back h rfl)), hR.w1.o, hR.w2.o, hR.w4.o, (fun _ j hj => upd_on (hw j hj)), hR.w7.o, hR.w9.o, hR.w10.o, hR.w12.o, hR.f0.k, hR.f1.k, hR.f2.k, hR.f3.k, hR.f4.k, (fun _ => rfl), (fun _ => rfl), hR.f7.k, hR.f8.k, hR.f9.k, hR.f10.k, hR.f11.k⟩⟩
            refine EachOf.cons [6] rfl (by kernel_rfl) ?_ ?_
            · rintro L A W ⟨v, g, rfl, hR⟩ hi hw KK hK
              have e6 := hR.f6 (hw 6 (by simp))
              simp only [e6]
              clear e6
              have q0 := (hR.st.cell (p := ⟨sg, o, none⟩) LO0.out.2).trans LO0.out.1
              have q1 := (hR.st.cell (p := ⟨sg, o + 1, none⟩) LO1.out.2).trans LO1.out.1
              have q2 := (hR.st.cell (p := ⟨sg, o + 2, none⟩) LO2.out.2).trans LO2.out.1
              go_simp
              refine hK.out _ _ ?_
              exact ⟨(fun jz => if jz = 29 then .pointer (some ⟨sg, o, none⟩) else if jz = 30 then .agg #[.int .i64 p.x, .int .i64 p.y, .int .i64 p.z] else v jz), g, rfl, ⟨hR.st, hR.b11.k, (fun h h2 => hR.z11 (upd_back h rfl) (upd_false h2)), (fun h => hR.y12 (upd_back h rfl)), hR.w1.o, hR.w2.o, hR.w4.o, hR.w6.o, (fun _ j hj => upd_on (hw j hj)), hR.w9.o, hR.w10.o, hR.w12.o, hR.f0.k, hR.f1.k, hR.f2.k, hR.f3.k, hR.f4.k, hR.f5.k, (fun _ => rfl), (fun _ => rfl), hR.f8.k, hR.f9.k, hR.f10.k, hR.f11.k⟩⟩
            refine EachOf.cons [] rfl (by kernel_rfl) ?_ ?_
            · rintro L A W ⟨v, g, rfl, hR⟩ hi hw KK hK
              have q0 := (hR.st.cell (p := ⟨b6, 0, none⟩) LB0.out.2).trans LB0.out.1
              have q1 := (hR.st.cell (p := ⟨b6, 1, none⟩) LB1.out.2).trans LB1.out.1
              have q2 := (hR.st.cell (p := ⟨b6, 2, none⟩) LB2.out.2).trans LB2.out.1
              go_simp
              refine hK.out _ _ ?_
              exact ⟨(fun jz => if jz = 31 then .agg #[.int .i64 b.x, .int .i64 b.y, .int .i64 b.z] else v jz), g, rfl, ⟨hR.st, hR.b11.k, (fun h h2 => hR.z11 (upd_back h rfl) (upd_false h2)), (fun h => hR.y12 (upd_back h rfl)), hR.w1.o, hR.w2.o, hR.w4.o, hR.w6.o, hR.w7.o, hR.w9.o, hR.w10.o, hR.w12.o, hR.f0.k, hR.f1.k, hR.f2.k, hR.f3.k, hR.f4.k, hR.f5.k, hR.f6.k, hR.f7.k, (fun _ => rfl), hR.f9.k, hR.f10.k, hR.f11.k⟩⟩
            refine EachOf.cons [7, 8] rfl (by kernel_rfl) ?_ ?_
            · rintro L A W ⟨v, g, rfl, hR⟩ hi hw KK hK
              have e7 := hR.f7 (hw 7 (by simp))
              have e8 := hR.f8 (hw 8 (by simp))
              simp only [e7, e8]
              clear e7 e8
              go_simp
              go_at_call 47
              (with_reducible refine ((CV _).out).mono ?_)
              rintro e w2 ⟨rfl, hb⟩
              go_simp
              refine hK.out _ _ ?_
              exact ⟨(fun jz => if jz = 30 then .agg #[.int .i64 p.x, .int .i64 p.y, .int .i64 p.z] else if jz = 31 then .agg #[.int .i64 b.x, .int .i64 b.y, .int .i64 b.z] else if jz = 32 then .agg #[.int .i64 pv.x, .int .i64 pv.y, .int .i64 pv.z] else v jz), g, rfl, ⟨below_on hR.st hb, (fun h => ⟨(hR.b11 (upd_back h rfl)).1, Nat.lt_of_lt_of_le (hR.b11 (upd_back h rfl)).2 hb.size⟩), (fun h h2 => (hR.z11 (upd_back h rfl) (upd_false h2)).on hb), (fun h => (hR.y12 (upd_back h rfl)).on hb), hR.w1.o, hR.w2.o, hR.w4.o, hR.w6.o, hR.w7.o, (fun _ j hj => upd_on (hw j hj)), hR.w10.o, hR.w12.o, hR.f0.k, hR.f1.k, hR.f2.k, hR.f3.k, hR.f4.k, hR.f5.k, hR.f6.k, (fun _ => rfl), (fun _ => rfl), (fun _ => rfl), hR.f10.k, hR.f11.k⟩⟩
            refine EachOf.cons [4, 9] rfl (by kernel_rfl) ?_ ?_
            · rintro L A W ⟨v, g, rfl, hR⟩ hi hw KK hK
              have e4 := hR.f4 (hw 4 (by simp))
              have e9 := hR.f9 (hw 9 (by simp))
              simp only [e4, e9]
              clear e4 e9
              go_simp
              go_at_call 82
              (with_reducible refine ((CC.out _ hR.st)).mono ?_)
              rintro e w2 ⟨rfl, hb⟩
              go_simp
              refine hK.out _ _ ?_
              exact ⟨(fun jz => if jz = 27 then .agg #[.int .i64 u.x, .int .i64 u.y, .int .i64 u.z] else if jz = 32 then .agg #[.int .i64 pv.x, .int .i64 pv.y, .int .i64 pv.z] else if jz = 33 then .agg #[.int .i64 c.x, .int .i64 c.y, .int .i64 c.z] else v jz), g, rfl, ⟨below_on hR.st hb, (fun h => ⟨(hR.b11 (upd_back h rfl)).1, Nat.lt_of_lt_of_le (hR.b11 (upd_back h rfl)).2 hb.size⟩), (fun h h2 => (hR.z11 (upd_back h rfl) (upd_false h2)).on hb), (fun h => (hR.y12 (upd_back h rfl)).on hb), hR.w1.o, hR.w2.o, hR.w4.o, hR.w6.o, hR.w7.o, hR.w9.o, (fun _ j hj => upd_on (hw j hj)), hR.w12.o, hR.f0.k, hR.f1.k, hR.f2.k, hR.f3.k, (fun _ => rfl), hR.f5.k, hR.f6.k, hR.f7.k, hR.f8.k, (fun _ => rfl), (fun _ => rfl), hR.f11.k⟩⟩
            refine EachOf.cons [] rfl (by kernel_rfl) ?_ ?_
            · rintro L A W ⟨v, g, rfl, hR⟩ hi hw KK hK
              have hz : W4.heap.size ≤ W.heap.size := hR.st.size
              go_simp
              refine hK.out _ _ ?_
              have hb : Below W.heap.size W (W.alloc (Obj.cells #[Value.int .i64 0, Value.int .i64 0, Value.int .i64 0] 79)) := (Below.refl _ _).alloc (Nat.le_refl _) _
              have hnew : CB (W.alloc (Obj.cells #[Value.int .i64 0, Value.int .i64 0, Value.int .i64 0] 79)) W.heap.size [.int .i64 0, .int .i64 0, .int .i64 0] := cb_new _ _ _
              exact ⟨(fun jz => if jz = 7 then .pointer (some ⟨W.heap.size, 0, none⟩) else v jz), (fun jz => if jz = 11 then W.heap.size else g jz), rfl, ⟨below_on hR.st hb, (fun _ => ⟨hz, by simp⟩), (fun _ _ => hnew), (fun h => absurd (hR.w12 (upd_back h rfl) 11 (by simp)) (by simp [hi])), hR.w1.o, hR.w2.o, hR.w4.o, hR.w6.o, hR.w7.o, hR.w9.o, hR.w10.o, hR.w12.o, hR.f0.k, hR.f1.k, hR.f2.k, hR.f3.k, hR.f4.k, hR.f5.k, hR.f6.k, hR.f7.k, hR.f8.k, hR.f9.k, hR.f10.k, (fun _ => rfl)⟩⟩
            refine EachOf.cons [0, 1, 2, 3, 4, 5, 6, 7, 8, 9, 10, 11] rfl (by kernel_rfl) ?_ ?_
            · rintro L A W ⟨v, g, rfl, hR⟩ hi hw KK hK
              have e11 := hR.f11 (hw 11 (by simp))
              have e10 := hR.f10 (hw 10 (by simp))
              simp only [e11, e10]
              clear e11 e10
              have hzz := hR.z11 (hw 11 (by simp)) hi
              have hbb := hR.b11 (hw 11 (by simp))
              have q0 := hzz.cell 0 _ rfl
              have y0 := hzz.fz 0
              have q1 := hzz.cell 1 _ rfl
              have y1 := hzz.fz 1
              have q2 := hzz.cell 2 _ rfl
              have y2 := hzz.fz 2
              have ql := hzz.lt
              go_simp
              refine hK.out _ _ ?_
              exact ⟨(fun jz => if jz = 7 then .pointer (some ⟨g 11, 0, none⟩) else if jz = 33 then .agg #[.int .i64 c.x, .int .i64 c.y, .int .i64 c.z] else v jz), g, rfl, ⟨(stL_below hbb.1 [.int .i64 c.x, .int .i64 c.y, .int .i64 c.z] W 0 hR.st), (fun h => ⟨(hR.b11 (upd_back h rfl)).1, Nat.lt_of_lt_of_eq (hR.b11 (upd_back h rfl)).2 (stL_size (b := g 11) [.int .i64 c.x, .int .i64 c.y, .int .i64 c.z] W 0).symm⟩), (fun _ h => by simp [upd_self] at h), (fun _ => CB.fill (vs := [.int .i64 c.x, .int .i64 c.y, .int .i64 c.z]) hzz rfl), hR.w1.o, hR.w2.o, hR.w4.o, hR.w6.o, hR.w7.o, hR.w9.o, hR.w10.o, (fun _ j hj => upd_on (hw j hj)), hR.f0.k, hR.f1.k, hR.f2.k, hR.f3.k, hR.f4.k, hR.f5.k, hR.f6.k, hR.f7.k, hR.f8.k, hR.f9.k, (fun _ => rfl), (fun _ => rfl)⟩⟩
            exact EachOf.nil
          rintro L A W6 ⟨vs, gg, rfl, hR⟩ hL
          have e11 := hR.f11 (hL 11 (by simp))
          simp only [e11]
          have D7 := (hR.y12 (hL 12 (by simp))).b3
          have HS6 : Hid (NrS w W6 b2 sg o n f ∧ B3 W6 b4 a.x a.y a.z) := ⟨HS4.out.1.on hR.st, HS4.out.2.on hR.st⟩
          generalize gg 11 = b7 at *
          have d0 := D7.c0
          have d1 := D7.c1
          have d2 := D7.c2
          clear e11 hR hL D7 HS4 LA0 LA1 LA2 LB0 LB1 LB2 LO0 LO1 LO2 CU CV CC HPR HP0
          obtain ⟨nz, hnz⟩ : ∃ t, decide (¬ c.zero) = t := ⟨_, rfl⟩
          have HNZ : Hid (nz = true ↔ ¬ c.zero) := by show nz = true ↔ _; rw [← hnz]; exact decide_eq_true_iff
          clear hnz
          go_upto_region 8 with fail
          go_cut [36] (fun s wx => s = .bool nz ∧ wx = W6)
          case first =>
            by_cases hz : c.zero
            · have hnz : nz = false := by cases h : nz; · rfl
                                          · exact absurd hz (HNZ.out.1 h)
              subst hnz
              rw [hz.1] at d0
              rw [hz.2.1] at d1
              rw [hz.2.2] at d2
              have hq : ∀ w, (Op.equalIn 10000 79 (.agg #[.int .i64 0, .int .i64 0, .int .i64 0]) (.agg #[.int .i64 0, .int .i64 0, .int .i64 0])).run Tryd.prog w = .ok true w := fun w => by rw [veq_any]; rfl
              clear hz
              go_wp2_with fail
              go_meet
              exact ⟨rfl, rfl⟩
            · have hnz : nz = true := HNZ.out.2 hz
              subst hnz
              have hq : ∀ w, (Op.equalIn 10000 79 (.agg #[.int .i64 c.x, .int .i64 c.y, .int .i64 c.z]) (.agg #[.int .i64 0, .int .i64 0, .int .i64 0])).run Tryd.prog w = .ok false w := fun w => by rw [veq_any, decide_eq_false (show ¬ (c.x = 0 ∧ c.y = 0 ∧ c.z = 0) from hz)]
              clear hz
              go_wp2_with fail
              go_meet
              exact ⟨rfl, rfl⟩
          case rest =>
          obtain ⟨rfl, hwc⟩ := hcut
          have hwc2 := hwc.symm
          subst hwc2
          clear hwc
          cases nz with
          | true =>
            have hnz := HNZ.out.1 rfl
            have HR : Hid (NrmQ n f c) := .inr ⟨i, j, hlt, hjt, HC.out.1.symm, hnz⟩
            have hO := HS6.out.1.O
            have q0 := hO.c0
            have q1 := hO.c1
            have q2 := hO.c2
            have f0 := hO.f 0
            have f1 := hO.f 1
            have f2 := hO.f 2
            have ql := hO.lt
            have HE : Hid (∀ v0 v1 v2, Below w.heap.size w (((W6.setCell ⟨b2, 0, none⟩ v0).setCell ⟨b2, 1, none⟩ v1).setCell ⟨b2, 2, none⟩ v2)) := fun v0 v1 v2 => ((HS6.out.1.st.setCell HS6.out.1.lo _).setCell HS6.out.1.lo _).setCell HS6.out.1.lo _
            clear hnz hO HS6 HNZ HC HY HZ
            go_wp2_with fail
            refine bodyPost_ret (by simp [results, Tryd.results43, go_sem, q0, q1, q2]; try rfl) rfl ?_
            exact ⟨⟨c, rfl, HR.out⟩, HE.out _ _ _⟩
          | false =>
            have hnz : c.zero := Decidable.byContradiction fun h => by have := HNZ.out.2 h; cases this
            have HY2 : Hid (∀ j2, j2 < j + 1 → ((a.sub (f 0)).crs ((f j2).sub (f 0))).zero) := fun j2 h => by
              by_cases e : j2 = j
              · rw [e, HC.out.2]; exact hnz
              · exact HY.out j2 (by omega)
            clear hnz HNZ HC HY d0 d1 d2
            go_wp2_with fail
            go_roundg (i - (j + 1))
            case measure => omega
            case rel => exact ⟨j + 1, rfl, rfl, by omega, HS6, HY2⟩
        · have e : j = i := by omega
          have lj : ¬ (j : Int) < (i : Int) := by omega
          have HZ2 : Hid (∀ i2 j, i2 < i + 1 → j < i2 → (((f i2).sub (f 0)).crs ((f j).sub (f 0))).zero) := fun i2 j2 h1 h2 => by
            by_cases e2 : i2 = i
            · rw [e2, HA.out]; exact HY.out j2 (by omega)
            · exact HZ.out i2 j2 (by omega) h2
          have HS5 := Lib.hid HS.out.1
          clear e HY HZ HS
          go_wp2_with fail
          go_roundg (n - (i + 1))
          case measure => omega
          case rel => exact ⟨i + 1, rfl, rfl, by omega, HS5, HZ2⟩
    · have e : i = n := by omega
      have li : ¬ (i : Int) < (n : Int) := by omega
      have HR : Hid (NrmQ n f ⟨0, 0, 0⟩) := .inl ⟨⟨rfl, rfl, rfl⟩, fun i2 j h1 h2 => HZ.out i2 j (by omega) h2⟩
      have hO := HS.out.O
      have q0 := hO.c0
      have q1 := hO.c1
      have q2 := hO.c2
      have f0 := hO.f 0
      have f1 := hO.f 1
      have f2 := hO.f 2
      have ql := hO.lt
      have HE : Hid (∀ v0 v1 v2, Below w.heap.size w (((W1.setCell ⟨b2, 0, none⟩ v0).setCell ⟨b2, 1, none⟩ v1).setCell ⟨b2, 2, none⟩ v2)) := fun v0 v1 v2 => ((HS.out.st.setCell HS.out.lo _).setCell HS.out.lo _).setCell HS.out.lo _
      clear e hO HS HZ
      go_wp2_with fail
      refine bodyPost_ret (by simp [results, Tryd.results43, go_sem, q0, q1, q2]; try rfl) rfl ?_
      exact ⟨⟨⟨0, 0, 0⟩, rfl, HR.out⟩, HE.out _ _ _⟩
end Go.Proofs.YtcghjjfpjiacfaaDoor
