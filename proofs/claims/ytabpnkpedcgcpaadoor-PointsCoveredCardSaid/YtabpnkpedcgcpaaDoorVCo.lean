/- Layer 9: law PointsCovered. -/
import Derived.Test.YtabpnkpedcgcpaaDoorVTu
namespace Go.Proofs.YtabpnkpedcgcpaaDoor
open Go.ChangeShapes Go.WideShapes Go.ChangeAt Go.RowKit Go.Joins Go.Deep Go.Shelf
set_option linter.unusedVariables false

theorem row_flat (n : Nat) (f : Nat → Pt) : (Sort.flatK encP 3 (lp n f).toArray).toList = rowP f n := by
  apply List.ext_getElem?
  intro j
  by_cases h : j < n * 3
  · have e : j = j / 3 * 3 + j % 3 := by omega
    rw [e, rowP_get f n (j / 3) (j % 3) (by omega) (by omega), ← flat_c n f (j / 3) (j % 3) (by omega) (by omega), ← e, Array.getElem?_toList]
    have hs : j < (Sort.flatK encP 3 (lp n f).toArray).size := by simp [lp_len]; exact h
    rw [getElem!_pos _ j hs, Array.getElem?_eq_getElem hs]
  · rw [List.getElem?_eq_none (by simp [lp_len]; omega), List.getElem?_eq_none (by rw [rowP_len]; omega)]
theorem clone_row (b o n rc : Nat) (f : Nat → Pt) (w : World) (hc : ∀ i, i < n → w.cell? ⟨b, o + i * 3, none⟩ = some (.int .i64 (f i).x) ∧ w.cell? ⟨b, o + i * 3 + 1, none⟩ = some (.int .i64 (f i).y) ∧ w.cell? ⟨b, o + i * 3 + 2, none⟩ = some (.int .i64 (f i).z)) (hn : n ≤ 2000) :
    Calls Tryd.prog 19 #[.slice (some ⟨b, o, none⟩) n rc] w fun e w' => (∃ v, e = .returned v ∧ w'.ownsRow w.heap.size 23 3 v n (rowP f n)) ∧ Below w.heap.size w w' := by
  have hQ := of_ptr hc
  obtain ⟨i0, hi, hz0, hz1, hz2⟩ := info_parts (show (Tryd.prog.info? 23).map (fun i => (i.zero, i.size, i.bytes)) = some (some (Value.agg #[.int .i64 0, .int .i64 0, .int .i64 0]), 3, 24) by kernel_rfl)
  have hsz : (Sort.flatK encP 3 (lp n f).toArray).size = n * 3 := by simp [lp_len]
  have h := AnyE.slices_Clone Tryd.layClo i0 _ 3 24 hi hz0 hz1 hz2 rfl (by decide) Tryd.sizeOf23 b o n rc (Sort.flatK encP 3 (lp n f).toArray).toList w (by rw [Array.length_toList, hsz]) (by unfold maxLen; omega) (by omega)
    (fun j u hj => by
      rw [Array.getElem?_toList] at hj
      have hs : j < (Sort.flatK encP 3 (lp n f).toArray).size := (Array.getElem?_eq_some_iff.1 hj).1
      rw [hQ j (by omega), getElem!_pos _ j hs]
      exact congrArg some (Array.getElem?_eq_some_iff.1 hj).2)
    (fun u hu => by
      obtain ⟨j, hj, rfl⟩ := List.getElem_of_mem hu
      have hs : j < (Sort.flatK encP 3 (lp n f).toArray).size := by simpa using hj
      rw [Array.getElem_toList, ← getElem!_pos _ j hs, show j = j / 3 * 3 + j % 3 by omega, flat_c n f _ _ (by omega) (by omega)]
      rfl)
  refine (show Calls Tryd.prog 19 _ _ _ from h).mono ?_
  rintro e w' ⟨v, rfl, hown, _, hb⟩
  rw [row_flat] at hown
  exact ⟨⟨v, rfl, hown⟩, hb⟩
structure CoS (w W : World) (b5 b7 : Nat) (p m : Pt) (sg o n : Nat) (f : Nat → Pt) : Prop where
  st : Below w.heap.size w W
  P : B3 W b5 p.x p.y p.z
  M : B3 W b7 m.x m.y m.z
  hg : sg < W.heap.size
  p : PR W
  c : ∀ i, i < n → W.cell? ⟨sg, o + i * 3, none⟩ = some (.int .i64 (f i).x) ∧ W.cell? ⟨sg, o + i * 3 + 1, none⟩ = some (.int .i64 (f i).y) ∧ W.cell? ⟨sg, o + i * 3 + 2, none⟩ = some (.int .i64 (f i).z)
theorem CoS.on {w W W2 : World} {b5 b7 sg o n : Nat} {p m : Pt} {f : Nat → Pt} (h : CoS w W b5 b7 p m sg o n f) (hb : Below W.heap.size W W2) : CoS w W2 b5 b7 p m sg o n f :=
  ⟨below_on h.st hb, h.P.on hb, h.M.on hb, Nat.lt_of_lt_of_le h.hg hb.size, h.p.on hb, fun i hi => ⟨(hb.cell (p := ⟨sg, o + i * 3, none⟩) h.hg).trans (h.c i hi).1, (hb.cell (p := ⟨sg, o + i * 3 + 1, none⟩) h.hg).trans (h.c i hi).2.1, (hb.cell (p := ⟨sg, o + i * 3 + 2, none⟩) h.hg).trans (h.c i hi).2.2⟩⟩
theorem CoS.l {w W : World} {b5 b7 sg o n : Nat} {p m : Pt} {f : Nat → Pt} (h : CoS w W b5 b7 p m sg o n f) : PtR W (some ⟨sg, o, none⟩) n f := fun _ => ⟨sg, o, rfl, h.hg, h.c⟩
/-- The list with a point more. -/
def addP (n : Nat) (f : Nat → Pt) (m : Pt) : Nat → Pt := fun k => if k < n then f k else m
theorem rowP_cong (f g : Nat → Pt) : ∀ n, (∀ k, k < n → f k = g k) → rowP f n = rowP g n
  | 0, _ => rfl
  | n + 1, h => by
    show rowP f n ++ encP (f n) = rowP g n ++ encP (g n)
    rw [rowP_cong f g n (fun k hk => h k (by omega)), h n (by omega)]
theorem rowP_add (n : Nat) (f : Nat → Pt) (m : Pt) : rowP (addP n f m) (n + 1) = rowP f n ++ encP m := by
  show rowP (addP n f m) n ++ encP (addP n f m n) = _
  rw [rowP_cong (addP n f m) f n (fun k hk => if_pos hk)]
  unfold addP
  rw [if_neg (by omega)]
theorem own_base {W : World} {base base' : Nat} {e : TypeId} {size : Nat} {v : Value} {n : Nat} {xs : List Value} (h : W.ownsRow base e size v n xs) (hb : base' ≤ base) : W.ownsRow base' e size v n xs :=
  ⟨h.1, h.2.imp id (fun ⟨g, cap, cur, h1, h2, h3⟩ => ⟨g, cap, cur, h1, Nat.le_trans hb h2, h3⟩)⟩
theorem news_b3 {W : World} {b : Nat} {m : Pt} (hB : B3 W b m.x m.y m.z) : ∀ j u, (encP m)[j]? = some u → W.cell? ((⟨b, 0, none⟩ : Addr).add j) = some u := fun j u hu => by
  have e : (⟨b, 0, none⟩ : Addr).add j = ⟨b, j, none⟩ := by unfold Addr.add; split <;> simp_all
  rw [e]
  match j, hu with
  | 0, hu => simp [encP] at hu; subst hu; exact hB.c0
  | 1, hu => simp [encP] at hu; subst hu; exact hB.c1
  | 2, hu => simp [encP] at hu; subst hu; exact hB.c2
structure Vc17R (b5 b7 sg o n rc : Nat) (p m : Pt) (f : Nat → Pt) (v2 : Bool) (e2 : Int) (Wc : World) (L : Nat → Bool) (v : Nat → Value) (W : World) : Prop where
  st : Below Wc.heap.size Wc W
  f0 : Had L 0 (v 115 = .agg #[.int .i64 p.x, .int .i64 p.y, .int .i64 p.z])
  f1 : Had L 1 (v 116 = .slice (some ⟨sg, o, none⟩) n rc)
  w2 : Had L 2 (∀ j ∈ [1], L j = true)
  c2 : Had L 2 (L 5 = false → W.ownsRow Wc.heap.size 23 3 (v 117) n (rowP f n))
  f3 : Had L 3 (v 118 = .agg #[.int .i64 m.x, .int .i64 m.y, .int .i64 m.z])
  w4 : Had L 4 (∀ j ∈ [3], L j = true)
  b4 : Had L 4 (L 5 = false → ∃ b, v 119 = .slice (some ⟨b, 0, none⟩) 1 1 ∧ B3 W b m.x m.y m.z)
  w5 : Had L 5 (∀ j ∈ [2, 4], L j = true)
  c5 : Had L 5 (L 6 = false → W.ownsRow Wc.heap.size 23 3 (v 120) (n + 1) (rowP (addP n f m) (n + 1)))
  w6 : Had L 6 (∀ j ∈ [0, 5], L j = true)
  f6 : Had L 6 (v 121 = .tuple #[.bool v2, .int .i64 e2])
  w7 : Had L 7 (∀ j ∈ [6], L j = true)
  f7 : Had L 7 (v 114 = .tuple #[.bool v2, .int .i64 e2])
  w8 : Had L 8 (∀ j ∈ [7], L j = true)
  f8 : Had L 8 (v 122 = .bool v2)
  w9 : Had L 9 (∀ j ∈ [7], L j = true)
  f9 : Had L 9 (v 123 = .int .i64 e2)
  w10 : Had L 10 (∀ j ∈ [8], L j = true)
  f10 : Had L 10 (v 21 = .bool v2)
  w11 : Had L 11 (∀ j ∈ [9], L j = true)
  f11 : Had L 11 (v 22 = .int .i64 e2)
structure Vc8R (sg o n rc x1 x2 : Nat) (ci ck : Int) (a b : Pt) (Wc : World) (L : Nat → Bool) (v : Nat → Value) (g : Nat → Nat) (W : World) : Prop where
  st : Below Wc.heap.size Wc W
  b16 : Had L 16 (Wc.heap.size ≤ g 16 ∧ g 16 < W.heap.size)
  z16 : Had L 16 (L 18 = false → CB W (g 16) [.int .i64 0, .int .i64 0, .int .i64 0])
  y18 : Had L 18 (CB W (g 16) [.int .i64 a.x, .int .i64 a.y, .int .i64 a.z])
  b17 : Had L 17 (Wc.heap.size ≤ g 17 ∧ g 17 < W.heap.size)
  z17 : Had L 17 (L 19 = false → CB W (g 17) [.int .i64 0, .int .i64 0, .int .i64 0])
  y19 : Had L 19 (CB W (g 17) [.int .i64 b.x, .int .i64 b.y, .int .i64 b.z])
  n16x17 : Had2 L 16 17 (g 16 ≠ g 17)
  w2 : Had L 2 (∀ j ∈ [1], L j = true)
  w4 : Had L 4 (∀ j ∈ [3], L j = true)
  w5 : Had L 5 (∀ j ∈ [2, 4], L j = true)
  w6 : Had L 6 (∀ j ∈ [0, 5], L j = true)
  w7 : Had L 7 (∀ j ∈ [6], L j = true)
  w10 : Had L 10 (∀ j ∈ [9], L j = true)
  w12 : Had L 12 (∀ j ∈ [11], L j = true)
  w13 : Had L 13 (∀ j ∈ [10, 12], L j = true)
  w14 : Had L 14 (∀ j ∈ [8, 13], L j = true)
  w15 : Had L 15 (∀ j ∈ [14], L j = true)
  w18 : Had L 18 (∀ j ∈ [0, 1, 2, 3, 4, 5, 6, 7, 16, 17], L j = true)
  w19 : Had L 19 (∀ j ∈ [0, 1, 2, 3, 4, 5, 6, 7, 8, 9, 10, 11, 12, 13, 14, 15, 16, 17, 18], L j = true)
  f0 : Had L 0 (v 48 = .slice (some ⟨sg, o, none⟩) (n) (rc))
  f1 : Had L 1 (v 49 = .int .u8 ci)
  f2 : Had L 2 (v 50 = .int .i64 ci)
  f3 : Had L 3 (v 51 = .slice (some ⟨sg, o, none⟩) (n) (rc))
  f4 : Had L 4 (v 52 = .int .i64 (n : Int))
  f5 : Had L 5 (v 53 = .int .i64 (x1 : Int))
  f6 : Had L 6 (v 54 = .pointer (some ⟨sg, o + x1 * 3, none⟩))
  f7 : Had L 7 (v 55 = .agg #[.int .i64 a.x, .int .i64 a.y, .int .i64 a.z])
  f8 : Had L 8 (v 56 = .slice (some ⟨sg, o, none⟩) (n) (rc))
  f9 : Had L 9 (v 57 = .int .u8 ck)
  f10 : Had L 10 (v 58 = .int .i64 ck)
  f11 : Had L 11 (v 59 = .slice (some ⟨sg, o, none⟩) (n) (rc))
  f12 : Had L 12 (v 60 = .int .i64 (n : Int))
  f13 : Had L 13 (v 61 = .int .i64 (x2 : Int))
  f14 : Had L 14 (v 62 = .pointer (some ⟨sg, o + x2 * 3, none⟩))
  f15 : Had L 15 (v 63 = .agg #[.int .i64 b.x, .int .i64 b.y, .int .i64 b.z])
  f16 : Had L 16 (v 13 = .pointer (some ⟨g 16, 0, none⟩))
  f17 : Had L 17 (v 14 = .pointer (some ⟨g 17, 0, none⟩))
set_option maxRecDepth 100000 in
set_option maxHeartbeats 64000000 in
theorem covered_walk (p : Pt) (ra : Option Addr) (n rc : Nat) (f : Nat → Pt) (m : Pt) (ci ck : Int) (w : World) (hp : PR w) (_ : PI p) (hl : PtR w ra n f) (hpi : ∀ i, i < n → PI (f i)) (hrc : n ≤ rc) (hrc2 : rc ≤ 9223372036854775807) (hnil : ra = none → n = 0 ∧ rc = 0) (_ : PI m) (i0 : 0 ≤ ci) (i1' : ci ≤ 255) (k0 : 0 ≤ ck) (k1' : ck ≤ 255) :
    Calls Tryd.prog 5 #[.agg #[.int .i64 p.x, .int .i64 p.y, .int .i64 p.z], .slice ra n rc, .agg #[.int .i64 m.x, .int .i64 m.y, .int .i64 m.z], .int .u8 ci, .int .u8 ck] w fun e w' => e = .returned (.bool true) ∧ Below w.heap.size w w' := by
  have CA := fun W => Lib.hid (pawake_any W)
  obtain ⟨w1, hw1⟩ : ∃ W, W = (w.alloc (Obj.cells #[.int .i64 p.x, .int .i64 p.y, .int .i64 p.z] 23)).alloc (Obj.cells #[.int .i64 m.x, .int .i64 m.y, .int .i64 m.z] 23) := ⟨_, rfl⟩
  obtain ⟨hb1, hA, hB⟩ := two_boxes w p m _ _ w1 hw1
  obtain ⟨b5, hb5⟩ : ∃ x, x = w.heap.size := ⟨_, rfl⟩
  obtain ⟨b7, hb7⟩ : ∃ x, x = w.heap.size + 1 := ⟨_, rfl⟩
  have HN : Hid (b5 = w.heap.size ∧ b7 = w.heap.size + 1 ∧ w1 = (w.alloc (Obj.cells #[.int .i64 p.x, .int .i64 p.y, .int .i64 p.z] 23)).alloc (Obj.cells #[.int .i64 m.x, .int .i64 m.y, .int .i64 m.z] 23)) := ⟨hb5, hb7, hw1⟩
  rw [← hb5] at hA
  rw [← hb7] at hB
  by_cases hbad : 11 < n ∨ n = 0
  · have HB := Lib.hid hb1
    by_cases h11 : 11 < n
    · have d11 : decide ((11 : Int) < (n : Int)) = true := decide_eq_true (by omega)
      clear hA hB hb1 hb5 hb7 hw1 hp hl hpi hbad
      go_enter Tryd.func5, Tryd.ntmps5
      go_upto_region 1 with fail
      rw [← HN.out.2.2, ← HN.out.2.1, ← HN.out.1]
      go_wp2_with (go_at_call 7; (with_reducible refine ((CA _).out.mono ?_)); rintro e w2 ⟨rfl, hb2⟩; have HE := Lib.hid (below_on HB.out hb2); clear hb2)
      go_ret
      exact ⟨rfl, HE.out⟩
    · have e0 : n = 0 := by omega
      subst e0
      clear hA hB hb1 hb5 hb7 hw1 hp hl hpi hbad h11
      go_enter Tryd.func5, Tryd.ntmps5
      go_upto_region 1 with fail
      rw [← HN.out.2.2, ← HN.out.2.1, ← HN.out.1]
      go_wp2_with (go_at_call 7; (with_reducible refine ((CA _).out.mono ?_)); rintro e w2 ⟨rfl, hb2⟩; have HE := Lib.hid (below_on HB.out hb2); clear hb2)
      go_ret
      exact ⟨rfl, HE.out⟩
  have h11 : n ≤ 11 := by omega
  have hn0 : 0 < n := by omega
  obtain ⟨sg, o, rfl, hg, hc⟩ := hl hn0
  have HS1 : Hid (CoS w w1 b5 b7 p m sg o n f) := ⟨hb1, hA, hB, Nat.lt_of_lt_of_le hg hb1.size, hp.on hb1, fun i hi => ⟨(hb1.cell (p := ⟨sg, o + i * 3, none⟩) hg).trans (hc i hi).1, (hb1.cell (p := ⟨sg, o + i * 3 + 1, none⟩) hg).trans (hc i hi).2.1, (hb1.cell (p := ⟨sg, o + i * 3 + 2, none⟩) hg).trans (hc i hi).2.2⟩⟩
  have d11 : decide ((11 : Int) < (n : Int)) = false := decide_eq_false (by omega)
  have dn0 : ((n : Int) == 0) = false := by simp; omega
  have dn1 : ¬ (n : Int) = 0 := by omega
  have dn2 : ¬ n = 0 := by omega
  have HRC := Lib.hid (And.intro hrc hrc2)
  have CIN := fun (q : Pt) (W : World) (hW : CoS w W b5 b7 p m sg o n f) (v : Bool) (e : Int) (h : InO q n f v e) => Lib.hid (inside_any q (some ⟨sg, o, none⟩) n rc f W hW.p hW.l hrc hrc2 v e h)
  obtain ⟨v, e, hin⟩ := inO_ex p n f
  have HIN := Lib.hid hin
  clear hA hB hb1 hb5 hb7 hw1 hp hl hg hc hbad hin hnil hpi hrc2
  go_enter Tryd.func5, Tryd.ntmps5
  go_upto_region 1 with fail
  rw [← HN.out.2.2, ← HN.out.2.1, ← HN.out.1]
  clear HN
  go_upto_region 5 with (go_at_call 7; (with_reducible refine ((CA _).out.mono ?_)); rintro e w2 ⟨rfl, hb2⟩; have HS2 := Lib.hid (HS1.out.on hb2); clear hb2 HS1 CA)
  have p0 := HS2.out.P.c0
  have p1 := HS2.out.P.c1
  have p2 := HS2.out.P.c2
  have C1 := CIN p _ HS2.out v e HIN.out
  go_upto_region 6 with (go_at_call 9; (with_reducible refine ((C1.out).mono ?_)); rintro r w3 ⟨rfl, hb3⟩; have HS3 := Lib.hid (HS2.out.on hb3); clear hb3 HS2 C1 p0 p1 p2)
  clear d11
  by_cases he : e = 0
  · subst he
    have hok : p.ok ∧ allV n f ∧ (v = true ↔ InQ p n f) := by
      rcases HIN.out with ⟨_, _, h⟩ | ⟨_, _, _, _, h⟩ | ⟨h0, h1, _, h2, _⟩
      · cases h
      · cases h
      · exact ⟨h0, h1, h2⟩
    have HOK := Lib.hid hok
    clear hok HIN
    obtain ⟨x1, hx1⟩ : ∃ m : Nat, ci.tmod (n : Int) = (m : Int) := ⟨(ci.tmod (n : Int)).toNat, by have := Int.tmod_nonneg (n : Int) i0; omega⟩
    obtain ⟨x2, hx2⟩ : ∃ m : Nat, ck.tmod (n : Int) = (m : Int) := ⟨(ck.tmod (n : Int)).toNat, by have := Int.tmod_nonneg (n : Int) k0; omega⟩
    have y1 : x1 < n := by have := Int.tmod_lt_of_pos ci (show (0 : Int) < (n : Int) by omega); omega
    have y2 : x2 < n := by have := Int.tmod_lt_of_pos ck (show (0 : Int) < (n : Int) by omega); omega
    have l1 : (x1 : Int) < (n : Int) := by omega
    have l2 : (x2 : Int) < (n : Int) := by omega
    have wi : IntKind.i64.wrap ci = ci := IntWalk.i64_in _ (by omega)
    have wk : IntKind.i64.wrap ck = ck := IntWalk.i64_in _ (by omega)
    have wx1 : IntKind.i64.wrap (x1 : Int) = (x1 : Int) := IntWalk.i64_in _ (by omega)
    have wx2 : IntKind.i64.wrap (x2 : Int) = (x2 : Int) := IntWalk.i64_in _ (by omega)
    have nm1 : ¬ (n : Int) = -1 := by omega
    have hc1 := HS3.out.c x1 y1
    have hc2 := HS3.out.c x2 y2
    obtain ⟨a, ha⟩ : ∃ a, f x1 = a := ⟨_, rfl⟩
    obtain ⟨b, hb⟩ : ∃ a, f x2 = a := ⟨_, rfl⟩
    have HAB : Hid (f x1 = a ∧ f x2 = b ∧ x1 < n ∧ x2 < n) := ⟨ha, hb, y1, y2⟩
    rw [ha] at hc1
    rw [hb] at hc2
    have LA0 := Lib.hid (And.intro hc1.1 HS3.out.hg)
    have LA1 := Lib.hid (And.intro hc1.2.1 HS3.out.hg)
    have LA2 := Lib.hid (And.intro hc1.2.2 HS3.out.hg)
    have LB0 := Lib.hid (And.intro hc2.1 HS3.out.hg)
    have LB1 := Lib.hid (And.intro hc2.2.1 HS3.out.hg)
    have LB2 := Lib.hid (And.intro hc2.2.2 HS3.out.hg)
    clear ha hb hc1 hc2 y1 y2
    go_upto_region 8 with fail
    refine wp_region_each (fun L A W => ∃ (v : Nat → Value) (g : Nat → Nat), A = ⟨#[_, _, _, _, _, _, _, _, _, _, _, _, _, v 13, v 14, _, _, _, _, _, _, _, _, _, _, _, _, _, _, _, _, _, _, _, _, _, _, _, _, _, _, _, _, _, _, _, _, _, v 48, v 49, v 50, v 51, v 52, v 53, v 54, v 55, v 56, v 57, v 58, v 59, v 60, v 61, v 62, v 63, _, _, _, _, _, _, _, _, _, _, _, _, _, _, _, _, _, _, _, _, _, _, _, _, _, _, _, _, _, _, _, _, _, _, _, _, _, _, _, _, _, _, _, _, _, _, _, _, _, _, _, _, _, _, _, _, _, _, _, _, _, _, _, _, _, _, _, _, _, _, _, _, _, _, _, _, _, _, _, _, _, _, _, _, _, _, _, _, _, _, _, _, _, _, _, _, _, _, _, _, _, _, _, _, _, _, _, _], []⟩ ∧ Vc8R sg o n rc x1 x2 ci ck a b w3 L v g W) (by kernel_rfl) (by kernel_rfl) ⟨fun jz => if jz = 48 then undef else if jz = 49 then undef else if jz = 50 then undef else if jz = 51 then undef else if jz = 52 then undef else if jz = 53 then undef else if jz = 54 then undef else if jz = 55 then undef else if jz = 56 then undef else if jz = 57 then undef else if jz = 58 then undef else if jz = 59 then undef else if jz = 60 then undef else if jz = 61 then undef else if jz = 62 then undef else if jz = 63 then undef else if jz = 13 then undef else if jz = 14 then undef else undef, fun _ => 0, rfl, ⟨(Below.drew (Below.refl _ _)), Had.none, Had.none, Had.none, Had.none, Had.none, Had.none, (fun h => by cases h), Had.none, Had.none, Had.none, Had.none, Had.none, Had.none, Had.none, Had.none, Had.none, Had.none, Had.none, Had.none, Had.none, Had.none, Had.none, Had.none, Had.none, Had.none, Had.none, Had.none, Had.none, Had.none, Had.none, Had.none, Had.none, Had.none, Had.none, Had.none, Had.none, Had.none⟩⟩ (rs := [0, 1, 2, 3, 4, 5, 6, 7, 8, 9, 10, 11, 12, 13, 14, 15, 16, 17, 18, 19]) (by kernel_rfl) ?_ ?_
    · refine EachOf.cons [] rfl (by kernel_rfl) ?_ ?_
      · rintro L A W ⟨v, g, rfl, hR⟩ hi hw KK hK
        go_simp
        refine hK.out _ _ ?_
        exact ⟨(fun jz => if jz = 48 then .slice (some ⟨sg, o, none⟩) (n) (rc) else v jz), g, rfl, ⟨hR.st, hR.b16.k, (fun h h2 => hR.z16 (upd_back h rfl) (upd_false h2)), (fun h => hR.y18 (upd_back h rfl)), hR.b17.k, (fun h h2 => hR.z17 (upd_back h rfl) (upd_false h2)), (fun h => hR.y19 (upd_back h rfl)), (hR.n16x17.keep rfl rfl), hR.w2.o, hR.w4.o, hR.w5.o, hR.w6.o, hR.w7.o, hR.w10.o, hR.w12.o, hR.w13.o, hR.w14.o, hR.w15.o, hR.w18.o, hR.w19.o, (fun _ => rfl), hR.f1.k, hR.f2.k, hR.f3.k, hR.f4.k, hR.f5.k, hR.f6.k, hR.f7.k, hR.f8.k, hR.f9.k, hR.f10.k, hR.f11.k, hR.f12.k, hR.f13.k, hR.f14.k, hR.f15.k, hR.f16.k, hR.f17.k⟩⟩
      refine EachOf.cons [] rfl (by kernel_rfl) ?_ ?_
      · rintro L A W ⟨v, g, rfl, hR⟩ hi hw KK hK
        go_simp
        refine hK.out _ _ ?_
        exact ⟨(fun jz => if jz = 49 then .int .u8 ci else v jz), g, rfl, ⟨hR.st, hR.b16.k, (fun h h2 => hR.z16 (upd_back h rfl) (upd_false h2)), (fun h => hR.y18 (upd_back h rfl)), hR.b17.k, (fun h h2 => hR.z17 (upd_back h rfl) (upd_false h2)), (fun h => hR.y19 (upd_back h rfl)), (hR.n16x17.keep rfl rfl), hR.w2.o, hR.w4.o, hR.w5.o, hR.w6.o, hR.w7.o, hR.w10.o, hR.w12.o, hR.w13.o, hR.w14.o, hR.w15.o, hR.w18.o, hR.w19.o, hR.f0.k, (fun _ => rfl), hR.f2.k, hR.f3.k, hR.f4.k, hR.f5.k, hR.f6.k, hR.f7.k, hR.f8.k, hR.f9.k, hR.f10.k, hR.f11.k, hR.f12.k, hR.f13.k, hR.f14.k, hR.f15.k, hR.f16.k, hR.f17.k⟩⟩
      refine EachOf.cons [1] rfl (by kernel_rfl) ?_ ?_
      · rintro L A W ⟨v, g, rfl, hR⟩ hi hw KK hK
        have e1 := hR.f1 (hw 1 (by simp))
        simp only [e1]
        clear e1
        go_simp
        refine hK.out _ _ ?_
        exact ⟨(fun jz => if jz = 49 then .int .u8 ci else if jz = 50 then .int .i64 ci else v jz), g, rfl, ⟨hR.st, hR.b16.k, (fun h h2 => hR.z16 (upd_back h rfl) (upd_false h2)), (fun h => hR.y18 (upd_back h rfl)), hR.b17.k, (fun h h2 => hR.z17 (upd_back h rfl) (upd_false h2)), (fun h => hR.y19 (upd_back h rfl)), (hR.n16x17.keep rfl rfl), (fun _ j hj => upd_on (hw j hj)), hR.w4.o, hR.w5.o, hR.w6.o, hR.w7.o, hR.w10.o, hR.w12.o, hR.w13.o, hR.w14.o, hR.w15.o, hR.w18.o, hR.w19.o, hR.f0.k, (fun _ => rfl), (fun _ => rfl), hR.f3.k, hR.f4.k, hR.f5.k, hR.f6.k, hR.f7.k, hR.f8.k, hR.f9.k, hR.f10.k, hR.f11.k, hR.f12.k, hR.f13.k, hR.f14.k, hR.f15.k, hR.f16.k, hR.f17.k⟩⟩
      refine EachOf.cons [] rfl (by kernel_rfl) ?_ ?_
      · rintro L A W ⟨v, g, rfl, hR⟩ hi hw KK hK
        go_simp
        refine hK.out _ _ ?_
        exact ⟨(fun jz => if jz = 51 then .slice (some ⟨sg, o, none⟩) (n) (rc) else v jz), g, rfl, ⟨hR.st, hR.b16.k, (fun h h2 => hR.z16 (upd_back h rfl) (upd_false h2)), (fun h => hR.y18 (upd_back h rfl)), hR.b17.k, (fun h h2 => hR.z17 (upd_back h rfl) (upd_false h2)), (fun h => hR.y19 (upd_back h rfl)), (hR.n16x17.keep rfl rfl), hR.w2.o, hR.w4.o, hR.w5.o, hR.w6.o, hR.w7.o, hR.w10.o, hR.w12.o, hR.w13.o, hR.w14.o, hR.w15.o, hR.w18.o, hR.w19.o, hR.f0.k, hR.f1.k, hR.f2.k, (fun _ => rfl), hR.f4.k, hR.f5.k, hR.f6.k, hR.f7.k, hR.f8.k, hR.f9.k, hR.f10.k, hR.f11.k, hR.f12.k, hR.f13.k, hR.f14.k, hR.f15.k, hR.f16.k, hR.f17.k⟩⟩
      refine EachOf.cons [3] rfl (by kernel_rfl) ?_ ?_
      · rintro L A W ⟨v, g, rfl, hR⟩ hi hw KK hK
        have e3 := hR.f3 (hw 3 (by simp))
        simp only [e3]
        clear e3
        go_simp
        refine hK.out _ _ ?_
        exact ⟨(fun jz => if jz = 51 then .slice (some ⟨sg, o, none⟩) (n) (rc) else if jz = 52 then .int .i64 (n : Int) else v jz), g, rfl, ⟨hR.st, hR.b16.k, (fun h h2 => hR.z16 (upd_back h rfl) (upd_false h2)), (fun h => hR.y18 (upd_back h rfl)), hR.b17.k, (fun h h2 => hR.z17 (upd_back h rfl) (upd_false h2)), (fun h => hR.y19 (upd_back h rfl)), (hR.n16x17.keep rfl rfl), hR.w2.o, (fun _ j hj => upd_on (hw j hj)), hR.w5.o, hR.w6.o, hR.w7.o, hR.w10.o, hR.w12.o, hR.w13.o, hR.w14.o, hR.w15.o, hR.w18.o, hR.w19.o, hR.f0.k, hR.f1.k, hR.f2.k, (fun _ => rfl), (fun _ => rfl), hR.f5.k, hR.f6.k, hR.f7.k, hR.f8.k, hR.f9.k, hR.f10.k, hR.f11.k, hR.f12.k, hR.f13.k, hR.f14.k, hR.f15.k, hR.f16.k, hR.f17.k⟩⟩
      refine EachOf.cons [2, 4] rfl (by kernel_rfl) ?_ ?_
      · rintro L A W ⟨v, g, rfl, hR⟩ hi hw KK hK
        have e2 := hR.f2 (hw 2 (by simp))
        have e4 := hR.f4 (hw 4 (by simp))
        simp only [e2, e4]
        clear e2 e4
        go_simp
        refine hK.out _ _ ?_
        exact ⟨(fun jz => if jz = 50 then .int .i64 ci else if jz = 52 then .int .i64 (n : Int) else if jz = 53 then .int .i64 (x1 : Int) else v jz), g, rfl, ⟨hR.st, hR.b16.k, (fun h h2 => hR.z16 (upd_back h rfl) (upd_false h2)), (fun h => hR.y18 (upd_back h rfl)), hR.b17.k, (fun h h2 => hR.z17 (upd_back h rfl) (upd_false h2)), (fun h => hR.y19 (upd_back h rfl)), (hR.n16x17.keep rfl rfl), hR.w2.o, hR.w4.o, (fun _ j hj => upd_on (hw j hj)), hR.w6.o, hR.w7.o, hR.w10.o, hR.w12.o, hR.w13.o, hR.w14.o, hR.w15.o, hR.w18.o, hR.w19.o, hR.f0.k, hR.f1.k, (fun _ => rfl), hR.f3.k, (fun _ => rfl), (fun _ => rfl), hR.f6.k, hR.f7.k, hR.f8.k, hR.f9.k, hR.f10.k, hR.f11.k, hR.f12.k, hR.f13.k, hR.f14.k, hR.f15.k, hR.f16.k, hR.f17.k⟩⟩
      refine EachOf.cons [0, 5] rfl (by kernel_rfl) ?_ ?_
      · rintro L A W ⟨v, g, rfl, hR⟩ hi hw KK hK
        have e0 := hR.f0 (hw 0 (by simp))
        have e5 := hR.f5 (hw 5 (by simp))
        simp only [e0, e5]
        clear e0 e5
        go_simp
        refine hK.out _ _ ?_
        exact ⟨(fun jz => if jz = 48 then .slice (some ⟨sg, o, none⟩) (n) (rc) else if jz = 53 then .int .i64 (x1 : Int) else if jz = 54 then .pointer (some ⟨sg, o + x1 * 3, none⟩) else v jz), g, rfl, ⟨hR.st, hR.b16.k, (fun h h2 => hR.z16 (upd_back h rfl) (upd_false h2)), (fun h => hR.y18 (upd_back h rfl)), hR.b17.k, (fun h h2 => hR.z17 (upd_back h rfl) (upd_false h2)), (fun h => hR.y19 (upd_back h rfl)), (hR.n16x17.keep rfl rfl), hR.w2.o, hR.w4.o, hR.w5.o, (fun _ j hj => upd_on (hw j hj)), hR.w7.o, hR.w10.o, hR.w12.o, hR.w13.o, hR.w14.o, hR.w15.o, hR.w18.o, hR.w19.o, (fun _ => rfl), hR.f1.k, hR.f2.k, hR.f3.k, hR.f4.k, (fun _ => rfl), (fun _ => rfl), hR.f7.k, hR.f8.k, hR.f9.k, hR.f10.k, hR.f11.k, hR.f12.k, hR.f13.k, hR.f14.k, hR.f15.k, hR.f16.k, hR.f17.k⟩⟩
      refine EachOf.cons [6] rfl (by kernel_rfl) ?_ ?_
      · rintro L A W ⟨v, g, rfl, hR⟩ hi hw KK hK
        have e6 := hR.f6 (hw 6 (by simp))
        simp only [e6]
        clear e6
        have q0 := (hR.st.cell (p := ⟨sg, o + x1 * 3, none⟩) LA0.out.2).trans LA0.out.1
        have q1 := (hR.st.cell (p := ⟨sg, o + x1 * 3 + 1, none⟩) LA1.out.2).trans LA1.out.1
        have q2 := (hR.st.cell (p := ⟨sg, o + x1 * 3 + 2, none⟩) LA2.out.2).trans LA2.out.1
        go_simp
        refine hK.out _ _ ?_
        exact ⟨(fun jz => if jz = 54 then .pointer (some ⟨sg, o + x1 * 3, none⟩) else if jz = 55 then .agg #[.int .i64 a.x, .int .i64 a.y, .int .i64 a.z] else v jz), g, rfl, ⟨hR.st, hR.b16.k, (fun h h2 => hR.z16 (upd_back h rfl) (upd_false h2)), (fun h => hR.y18 (upd_back h rfl)), hR.b17.k, (fun h h2 => hR.z17 (upd_back h rfl) (upd_false h2)), (fun h => hR.y19 (upd_back h rfl)), (hR.n16x17.keep rfl rfl), hR.w2.o, hR.w4.o, hR.w5.o, hR.w6.o, (fun _ j hj => upd_on (hw j hj)), hR.w10.o, hR.w12.o, hR.w13.o, hR.w14.o, hR.w15.o, hR.w18.o, hR.w19.o, hR.f0.k, hR.f1.k, hR.f2.k, hR.f3.k, hR.f4.k, hR.f5.k, (fun _ => rfl), (fun _ => rfl), hR.f8.k, hR.f9.k, hR.f10.k, hR.f11.k, hR.f12.k, hR.f13.k, hR.f14.k, hR.f15.k, hR.f16.k, hR.f17.k⟩⟩
      refine EachOf.cons [] rfl (by kernel_rfl) ?_ ?_
      · rintro L A W ⟨v, g, rfl, hR⟩ hi hw KK hK
        go_simp
        refine hK.out _ _ ?_
        exact ⟨(fun jz => if jz = 56 then .slice (some ⟨sg, o, none⟩) (n) (rc) else v jz), g, rfl, ⟨hR.st, hR.b16.k, (fun h h2 => hR.z16 (upd_back h rfl) (upd_false h2)), (fun h => hR.y18 (upd_back h rfl)), hR.b17.k, (fun h h2 => hR.z17 (upd_back h rfl) (upd_false h2)), (fun h => hR.y19 (upd_back h rfl)), (hR.n16x17.keep rfl rfl), hR.w2.o, hR.w4.o, hR.w5.o, hR.w6.o, hR.w7.o, hR.w10.o, hR.w12.o, hR.w13.o, hR.w14.o, hR.w15.o, hR.w18.o, hR.w19.o, hR.f0.k, hR.f1.k, hR.f2.k, hR.f3.k, hR.f4.k, hR.f5.k, hR.f6.k, hR.f7.k, (fun _ => rfl), hR.f9.k, hR.f10.k, hR.f11.k, hR.f12.k, hR.f13.k, hR.f14.k, hR.f15.k, hR.f16.k, hR.f17.k⟩⟩
      refine EachOf.cons [] rfl (by kernel_rfl) ?_ ?_
      · rintro L A W ⟨v, g, rfl, hR⟩ hi hw KK hK
        go_simp
        refine hK.out _ _ ?_
        exact ⟨(fun jz => if jz = 57 then .int .u8 ck else v jz), g, rfl, ⟨hR.st, hR.b16.k, (fun h h2 => hR.z16 (upd_back h rfl) (upd_false h2)), (fun h => hR.y18 (upd_back h rfl)), hR.b17.k, (fun h h2 => hR.z17 (upd_back h rfl) (upd_false h2)), (fun h => hR.y19 (upd_back h rfl)), (hR.n16x17.keep rfl rfl), hR.w2.o, hR.w4.o, hR.w5.o, hR.w6.o, hR.w7.o, hR.w10.o, hR.w12.o, hR.w13.o, hR.w14.o, hR.w15.o, hR.w18.o, hR.w19.o, hR.f0.k, hR.f1.k, hR.f2.k, hR.f3.k, hR.f4.k, hR.f5.k, hR.f6.k, hR.f7.k, hR.f8.k, (fun _ => rfl), hR.f10.k, hR.f11.k, hR.f12.k, hR.f13.k, hR.f14.k, hR.f15.k, hR.f16.k, hR.f17.k⟩⟩
      refine EachOf.cons [9] rfl (by kernel_rfl) ?_ ?_
      · rintro L A W ⟨v, g, rfl, hR⟩ hi hw KK hK
        have e9 := hR.f9 (hw 9 (by simp))
        simp only [e9]
        clear e9
        go_simp
        refine hK.out _ _ ?_
        exact ⟨(fun jz => if jz = 57 then .int .u8 ck else if jz = 58 then .int .i64 ck else v jz), g, rfl, ⟨hR.st, hR.b16.k, (fun h h2 => hR.z16 (upd_back h rfl) (upd_false h2)), (fun h => hR.y18 (upd_back h rfl)), hR.b17.k, (fun h h2 => hR.z17 (upd_back h rfl) (upd_false h2)), (fun h => hR.y19 (upd_back h rfl)), (hR.n16x17.keep rfl rfl), hR.w2.o, hR.w4.o, hR.w5.o, hR.w6.o, hR.w7.o, (fun _ j hj => upd_on (hw j hj)), hR.w12.o, hR.w13.o, hR.w14.o, hR.w15.o, hR.w18.o, hR.w19.o, hR.f0.k, hR.f1.k, hR.f2.k, hR.f3.k, hR.f4.k, hR.f5.k, hR.f6.k, hR.f7.k, hR.f8.k, (fun _ => rfl), (fun _ => rfl), hR.f11.k, hR.f12.k, hR.f13.k, hR.f14.k, hR.f15.k, hR.f16.k, hR.f17.k⟩⟩
      refine EachOf.cons [] rfl (by kernel_rfl) ?_ ?_
      · rintro L A W ⟨v, g, rfl, hR⟩ hi hw KK hK
        go_simp
        refine hK.out _ _ ?_
        exact ⟨(fun jz => if jz = 59 then .slice (some ⟨sg, o, none⟩) (n) (rc) else v jz), g, rfl, ⟨hR.st, hR.b16.k, (fun h h2 => hR.z16 (upd_back h rfl) (upd_false h2)), (fun h => hR.y18 (upd_back h rfl)), hR.b17.k, (fun h h2 => hR.z17 (upd_back h rfl) (upd_false h2)), (fun h => hR.y19 (upd_back h rfl)), (hR.n16x17.keep rfl rfl), hR.w2.o, hR.w4.o, hR.w5.o, hR.w6.o, hR.w7.o, hR.w10.o, hR.w12.o, hR.w13.o, hR.w14.o, hR.w15.o, hR.w18.o, hR.w19.o, hR.f0.k, hR.f1.k, hR.f2.k, hR.f3.k, hR.f4.k, hR.f5.k, hR.f6.k, hR.f7.k, hR.f8.k, hR.f9.k, hR.f10.k, (fun _ => rfl), hR.f12.k, hR.f13.k, hR.f14.k, hR.f15.k, hR.f16.k, hR.f17.k⟩⟩
      refine EachOf.cons [11] rfl (by kernel_rfl) ?_ ?_
      · rintro L A W ⟨v, g, rfl, hR⟩ hi hw KK hK
        have e11 := hR.f11 (hw 11 (by simp))
        simp only [e11]
        clear e11
        go_simp
        refine hK.out _ _ ?_
        exact ⟨(fun jz => if jz = 59 then .slice (some ⟨sg, o, none⟩) (n) (rc) else if jz = 60 then .int .i64 (n : Int) else v jz), g, rfl, ⟨hR.st, hR.b16.k, (fun h h2 => hR.z16 (upd_back h rfl) (upd_false h2)), (fun h => hR.y18 (upd_back h rfl)), hR.b17.k, (fun h h2 => hR.z17 (upd_back h rfl) (upd_false h2)), (fun h => hR.y19 (upd_back h rfl)), (hR.n16x17.keep rfl rfl), hR.w2.o, hR.w4.o, hR.w5.o, hR.w6.o, hR.w7.o, hR.w10.o, (fun _ j hj => upd_on (hw j hj)), hR.w13.o, hR.w14.o, hR.w15.o, hR.w18.o, hR.w19.o, hR.f0.k, hR.f1.k, hR.f2.k, hR.f3.k, hR.f4.k, hR.f5.k, hR.f6.k, hR.f7.k, hR.f8.k, hR.f9.k, hR.f10.k, (fun _ => rfl), (fun _ => rfl), hR.f13.k, hR.f14.k, hR.f15.k, hR.f16.k, hR.f17.k⟩⟩
      refine EachOf.cons [10, 12] rfl (by kernel_rfl) ?_ ?_
      · rintro L A W ⟨v, g, rfl, hR⟩ hi hw KK hK
        have e10 := hR.f10 (hw 10 (by simp))
        have e12 := hR.f12 (hw 12 (by simp))
        simp only [e10, e12]
        clear e10 e12
        go_simp
        refine hK.out _ _ ?_
        exact ⟨(fun jz => if jz = 58 then .int .i64 ck else if jz = 60 then .int .i64 (n : Int) else if jz = 61 then .int .i64 (x2 : Int) else v jz), g, rfl, ⟨hR.st, hR.b16.k, (fun h h2 => hR.z16 (upd_back h rfl) (upd_false h2)), (fun h => hR.y18 (upd_back h rfl)), hR.b17.k, (fun h h2 => hR.z17 (upd_back h rfl) (upd_false h2)), (fun h => hR.y19 (upd_back h rfl)), (hR.n16x17.keep rfl rfl), hR.w2.o, hR.w4.o, hR.w5.o, hR.w6.o, hR.w7.o, hR.w10.o, hR.w12.o, (fun _ j hj => upd_on (hw j hj)), hR.w14.o, hR.w15.o, hR.w18.o, hR.w19.o, hR.f0.k, hR.f1.k, hR.f2.k, hR.f3.k, hR.f4.k, hR.f5.k, hR.f6.k, hR.f7.k, hR.f8.k, hR.f9.k, (fun _ => rfl), hR.f11.k, (fun _ => rfl), (fun _ => rfl), hR.f14.k, hR.f15.k, hR.f16.k, hR.f17.k⟩⟩
      refine EachOf.cons [8, 13] rfl (by kernel_rfl) ?_ ?_
      · rintro L A W ⟨v, g, rfl, hR⟩ hi hw KK hK
        have e8 := hR.f8 (hw 8 (by simp))
        have e13 := hR.f13 (hw 13 (by simp))
        simp only [e8, e13]
        clear e8 e13
        go_simp
        refine hK.out _ _ ?_
        exact ⟨(fun jz => if jz = 56 then .slice (some ⟨sg, o, none⟩) (n) (rc) else if jz = 61 then .int .i64 (x2 : Int) else if jz = 62 then .pointer (some ⟨sg, o + x2 * 3, none⟩) else v jz), g, rfl, ⟨hR.st, hR.b16.k, (fun h h2 => hR.z16 (upd_back h rfl) (upd_false h2)), (fun h => hR.y18 (upd_back h rfl)), hR.b17.k, (fun h h2 => hR.z17 (upd_back h rfl) (upd_false h2)), (fun h => hR.y19 (upd_back h rfl)), (hR.n16x17.keep rfl rfl), hR.w2.o, hR.w4.o, hR.w5.o, hR.w6.o, hR.w7.o, hR.w10.o, hR.w12.o, hR.w13.o, (fun _ j hj => upd_on (hw j hj)), hR.w15.o, hR.w18.o, hR.w19.o, hR.f0.k, hR.f1.k, hR.f2.k, hR.f3.k, hR.f4.k, hR.f5.k, hR.f6.k, hR.f7.k, (fun _ => rfl), hR.f9.k, hR.f10.k, hR.f11.k, hR.f12.k, (fun _ => rfl), (fun _ => rfl), hR.f15.k, hR.f16.k, hR.f17.k⟩⟩
      refine EachOf.cons [14] rfl (by kernel_rfl) ?_ ?_
      · rintro L A W ⟨v, g, rfl, hR⟩ hi hw KK hK
        have e14 := hR.f14 (hw 14 (by simp))
        simp only [e14]
        clear e14
        have q0 := (hR.st.cell (p := ⟨sg, o + x2 * 3, none⟩) LB0.out.2).trans LB0.out.1
        have q1 := (hR.st.cell (p := ⟨sg, o + x2 * 3 + 1, none⟩) LB1.out.2).trans LB1.out.1
        have q2 := (hR.st.cell (p := ⟨sg, o + x2 * 3 + 2, none⟩) LB2.out.2).trans LB2.out.1
        go_simp
        refine hK.out _ _ ?_
        exact ⟨(fun jz => if jz = 62 then .pointer (some ⟨sg, o + x2 * 3, none⟩) else if jz = 63 then .agg #[.int .i64 b.x, .int .i64 b.y, .int .i64 b.z] else v jz), g, rfl, ⟨hR.st, hR.b16.k, (fun h h2 => hR.z16 (upd_back h rfl) (upd_false h2)), (fun h => hR.y18 (upd_back h rfl)), hR.b17.k, (fun h h2 => hR.z17 (upd_back h rfl) (upd_false h2)), (fun h => hR.y19 (upd_back h rfl)), (hR.n16x17.keep rfl rfl), hR.w2.o, hR.w4.o, hR.w5.o, hR.w6.o, hR.w7.o, hR.w10.o, hR.w12.o, hR.w13.o, hR.w14.o, (fun _ j hj => upd_on (hw j hj)), hR.w18.o, hR.w19.o, hR.f0.k, hR.f1.k, hR.f2.k, hR.f3.k, hR.f4.k, hR.f5.k, hR.f6.k, hR.f7.k, hR.f8.k, hR.f9.k, hR.f10.k, hR.f11.k, hR.f12.k, hR.f13.k, (fun _ => rfl), (fun _ => rfl), hR.f16.k, hR.f17.k⟩⟩
      refine EachOf.cons [] rfl (by kernel_rfl) ?_ ?_
      · rintro L A W ⟨v, g, rfl, hR⟩ hi hw KK hK
        have hz : w3.heap.size ≤ W.heap.size := hR.st.size
        go_simp
        refine hK.out _ _ ?_
        have hb : Below W.heap.size W (W.alloc (Obj.cells #[Value.int .i64 0, Value.int .i64 0, Value.int .i64 0] 23)) := (Below.refl _ _).alloc (Nat.le_refl _) _
        have hnew : CB (W.alloc (Obj.cells #[Value.int .i64 0, Value.int .i64 0, Value.int .i64 0] 23)) W.heap.size [.int .i64 0, .int .i64 0, .int .i64 0] := cb_new _ _ _
        exact ⟨(fun jz => if jz = 13 then .pointer (some ⟨W.heap.size, 0, none⟩) else v jz), (fun jz => if jz = 16 then W.heap.size else g jz), rfl, ⟨below_on hR.st hb, (fun _ => ⟨hz, by simp⟩), (fun _ _ => hnew), (fun h => absurd (hR.w18 (upd_back h rfl) 16 (by simp)) (by simp [hi])), (fun h => ⟨(hR.b17 (upd_back h rfl)).1, Nat.lt_of_lt_of_le (hR.b17 (upd_back h rfl)).2 hb.size⟩), (fun h h2 => (hR.z17 (upd_back h rfl) (upd_false h2)).on hb), (fun h => (hR.y19 (upd_back h rfl)).on hb), (fun _ h => (Nat.ne_of_lt (hR.b17 (upd_back h rfl)).2).symm), hR.w2.o, hR.w4.o, hR.w5.o, hR.w6.o, hR.w7.o, hR.w10.o, hR.w12.o, hR.w13.o, hR.w14.o, hR.w15.o, hR.w18.o, hR.w19.o, hR.f0.k, hR.f1.k, hR.f2.k, hR.f3.k, hR.f4.k, hR.f5.k, hR.f6.k, hR.f7.k, hR.f8.k, hR.f9.k, hR.f10.k, hR.f11.k, hR.f12.k, hR.f13.k, hR.f14.k, hR.f15.k, (fun _ => rfl), hR.f17.k⟩⟩
      refine EachOf.cons [] rfl (by kernel_rfl) ?_ ?_
      · rintro L A W ⟨v, g, rfl, hR⟩ hi hw KK hK
        have hz : w3.heap.size ≤ W.heap.size := hR.st.size
        go_simp
        refine hK.out _ _ ?_
        have hb : Below W.heap.size W (W.alloc (Obj.cells #[Value.int .i64 0, Value.int .i64 0, Value.int .i64 0] 23)) := (Below.refl _ _).alloc (Nat.le_refl _) _
        have hnew : CB (W.alloc (Obj.cells #[Value.int .i64 0, Value.int .i64 0, Value.int .i64 0] 23)) W.heap.size [.int .i64 0, .int .i64 0, .int .i64 0] := cb_new _ _ _
        exact ⟨(fun jz => if jz = 14 then .pointer (some ⟨W.heap.size, 0, none⟩) else v jz), (fun jz => if jz = 17 then W.heap.size else g jz), rfl, ⟨below_on hR.st hb, (fun h => ⟨(hR.b16 (upd_back h rfl)).1, Nat.lt_of_lt_of_le (hR.b16 (upd_back h rfl)).2 hb.size⟩), (fun h h2 => (hR.z16 (upd_back h rfl) (upd_false h2)).on hb), (fun h => (hR.y18 (upd_back h rfl)).on hb), (fun _ => ⟨hz, by simp⟩), (fun _ _ => hnew), (fun h => absurd (hR.w19 (upd_back h rfl) 17 (by simp)) (by simp [hi])), (fun h _ => Nat.ne_of_lt (hR.b16 (upd_back h rfl)).2), hR.w2.o, hR.w4.o, hR.w5.o, hR.w6.o, hR.w7.o, hR.w10.o, hR.w12.o, hR.w13.o, hR.w14.o, hR.w15.o, hR.w18.o, hR.w19.o, hR.f0.k, hR.f1.k, hR.f2.k, hR.f3.k, hR.f4.k, hR.f5.k, hR.f6.k, hR.f7.k, hR.f8.k, hR.f9.k, hR.f10.k, hR.f11.k, hR.f12.k, hR.f13.k, hR.f14.k, hR.f15.k, hR.f16.k, (fun _ => rfl)⟩⟩
      refine EachOf.cons [0, 1, 2, 3, 4, 5, 6, 7, 16, 17] rfl (by kernel_rfl) ?_ ?_
      · rintro L A W ⟨v, g, rfl, hR⟩ hi hw KK hK
        have e16 := hR.f16 (hw 16 (by simp))
        have e7 := hR.f7 (hw 7 (by simp))
        simp only [e16, e7]
        clear e16 e7
        have hzz := hR.z16 (hw 16 (by simp)) hi
        have hbb := hR.b16 (hw 16 (by simp))
        have q0 := hzz.cell 0 _ rfl
        have y0 := hzz.fz 0
        have q1 := hzz.cell 1 _ rfl
        have y1 := hzz.fz 1
        have q2 := hzz.cell 2 _ rfl
        have y2 := hzz.fz 2
        have ql := hzz.lt
        go_simp
        refine hK.out _ _ ?_
        exact ⟨(fun jz => if jz = 13 then .pointer (some ⟨g 16, 0, none⟩) else if jz = 55 then .agg #[.int .i64 a.x, .int .i64 a.y, .int .i64 a.z] else v jz), g, rfl, ⟨(stL_below hbb.1 [.int .i64 a.x, .int .i64 a.y, .int .i64 a.z] W 0 hR.st), (fun h => ⟨(hR.b16 (upd_back h rfl)).1, Nat.lt_of_lt_of_eq (hR.b16 (upd_back h rfl)).2 (stL_size (b := g 16) [.int .i64 a.x, .int .i64 a.y, .int .i64 a.z] W 0).symm⟩), (fun _ h => by simp [upd_self] at h), (fun _ => CB.fill (vs := [.int .i64 a.x, .int .i64 a.y, .int .i64 a.z]) hzz rfl), (fun h => ⟨(hR.b17 (upd_back h rfl)).1, Nat.lt_of_lt_of_eq (hR.b17 (upd_back h rfl)).2 (stL_size (b := g 16) [.int .i64 a.x, .int .i64 a.y, .int .i64 a.z] W 0).symm⟩), (fun h h2 => stL_far (hR.n16x17 (hw 16 (by simp)) (upd_back h rfl)) [.int .i64 a.x, .int .i64 a.y, .int .i64 a.z] W 0 (hR.z17 (upd_back h rfl) (upd_false h2))), (fun h => stL_far (hR.n16x17 (hw 16 (by simp)) (hR.w19 (upd_back h rfl) 17 (by simp))) [.int .i64 a.x, .int .i64 a.y, .int .i64 a.z] W 0 (hR.y19 (upd_back h rfl))), (hR.n16x17.keep rfl rfl), hR.w2.o, hR.w4.o, hR.w5.o, hR.w6.o, hR.w7.o, hR.w10.o, hR.w12.o, hR.w13.o, hR.w14.o, hR.w15.o, (fun _ j hj => upd_on (hw j hj)), hR.w19.o, hR.f0.k, hR.f1.k, hR.f2.k, hR.f3.k, hR.f4.k, hR.f5.k, hR.f6.k, (fun _ => rfl), hR.f8.k, hR.f9.k, hR.f10.k, hR.f11.k, hR.f12.k, hR.f13.k, hR.f14.k, hR.f15.k, (fun _ => rfl), hR.f17.k⟩⟩
      refine EachOf.cons [0, 1, 2, 3, 4, 5, 6, 7, 8, 9, 10, 11, 12, 13, 14, 15, 16, 17, 18] rfl (by kernel_rfl) ?_ ?_
      · rintro L A W ⟨v, g, rfl, hR⟩ hi hw KK hK
        have e17 := hR.f17 (hw 17 (by simp))
        have e15 := hR.f15 (hw 15 (by simp))
        simp only [e17, e15]
        clear e17 e15
        have hzz := hR.z17 (hw 17 (by simp)) hi
        have hbb := hR.b17 (hw 17 (by simp))
        have q0 := hzz.cell 0 _ rfl
        have y0 := hzz.fz 0
        have q1 := hzz.cell 1 _ rfl
        have y1 := hzz.fz 1
        have q2 := hzz.cell 2 _ rfl
        have y2 := hzz.fz 2
        have ql := hzz.lt
        go_simp
        refine hK.out _ _ ?_
        exact ⟨(fun jz => if jz = 14 then .pointer (some ⟨g 17, 0, none⟩) else if jz = 63 then .agg #[.int .i64 b.x, .int .i64 b.y, .int .i64 b.z] else v jz), g, rfl, ⟨(stL_below hbb.1 [.int .i64 b.x, .int .i64 b.y, .int .i64 b.z] W 0 hR.st), (fun h => ⟨(hR.b16 (upd_back h rfl)).1, Nat.lt_of_lt_of_eq (hR.b16 (upd_back h rfl)).2 (stL_size (b := g 17) [.int .i64 b.x, .int .i64 b.y, .int .i64 b.z] W 0).symm⟩), (fun h h2 => stL_far (fun q => hR.n16x17 (upd_back h rfl) (hw 17 (by simp)) q.symm) [.int .i64 b.x, .int .i64 b.y, .int .i64 b.z] W 0 (hR.z16 (upd_back h rfl) (upd_false h2))), (fun h => stL_far (fun q => hR.n16x17 (hR.w18 (upd_back h rfl) 16 (by simp)) (hw 17 (by simp)) q.symm) [.int .i64 b.x, .int .i64 b.y, .int .i64 b.z] W 0 (hR.y18 (upd_back h rfl))), (fun h => ⟨(hR.b17 (upd_back h rfl)).1, Nat.lt_of_lt_of_eq (hR.b17 (upd_back h rfl)).2 (stL_size (b := g 17) [.int .i64 b.x, .int .i64 b.y, .int .i64 b.z] W 0).symm⟩), (fun _ h => by simp [upd_self] at h), (fun _ => CB.fill (vs := [.int .i64 b.x, .int .i64 b.y, .int .i64 b.z]) hzz rfl), (hR.n16x17.keep rfl rfl), hR.w2.o, hR.w4.o, hR.w5.o, hR.w6.o, hR.w7.o, hR.w10.o, hR.w12.o, hR.w13.o, hR.w14.o, hR.w15.o, hR.w18.o, (fun _ j hj => upd_on (hw j hj)), hR.f0.k, hR.f1.k, hR.f2.k, hR.f3.k, hR.f4.k, hR.f5.k, hR.f6.k, hR.f7.k, hR.f8.k, hR.f9.k, hR.f10.k, hR.f11.k, hR.f12.k, hR.f13.k, hR.f14.k, (fun _ => rfl), hR.f16.k, (fun _ => rfl)⟩⟩
      exact EachOf.nil
    rintro L A W8 ⟨vs, gg, rfl, hR⟩ hL
    have e16 := hR.f16 (hL 16 (by simp))
    have e17 := hR.f17 (hL 17 (by simp))
    simp only [e16, e17]
    have D13 := (hR.y18 (hL 18 (by simp))).b3
    have D14 := (hR.y19 (hL 19 (by simp))).b3
    have HS8 : Hid (CoS w W8 b5 b7 p m sg o n f ∧ B3 W8 (gg 16) a.x a.y a.z ∧ B3 W8 (gg 17) b.x b.y b.z) := ⟨HS3.out.on hR.st, D13, D14⟩
    generalize gg 16 = b13 at *
    generalize gg 17 = b14 at *
    clear e16 e17 hR hL D13 D14 LA0 LA1 LA2 LB0 LB1 LB2 HS3 wi wk wx1 wx2 nm1 l1 l2 hx1 hx2 dn0 dn1
    have okA : a.ok := by rw [← HAB.out.1]; exact HOK.out.2.1 x1 HAB.out.2.2.1
    have okB : b.ok := by rw [← HAB.out.2.1]; exact HOK.out.2.1 x2 HAB.out.2.2.2
    have C1 := CIN a _ HS8.out.1 true 0 (.inr (.inr ⟨okA, HOK.out.2.1, by omega, ⟨fun _ => (by rw [← HAB.out.1]; exact in_own n f x1 HAB.out.2.2.1), fun _ => rfl⟩, rfl⟩))
    have a0 := HS8.out.2.1.c0
    have a1 := HS8.out.2.1.c1
    have a2 := HS8.out.2.1.c2
    go_upto_region 12 with (go_at_call 9; (with_reducible refine ((C1.out).mono ?_)); rintro r w9 ⟨rfl, hb9⟩; have HS9 : Hid (CoS w w9 b5 b7 p m sg o n f ∧ B3 w9 b13 a.x a.y a.z ∧ B3 w9 b14 b.x b.y b.z) := ⟨HS8.out.1.on hb9, HS8.out.2.1.on hb9, HS8.out.2.2.on hb9⟩; clear hb9 HS8 C1 a0 a1 a2)
    have a0 := HS9.out.2.1.c0
    have a1 := HS9.out.2.1.c1
    have c0 := HS9.out.2.2.c0
    have c1 := HS9.out.2.2.c1
    obtain ⟨⟨ax0', ax1'⟩, ⟨ay0', ay1'⟩, az0', az1'⟩ := okA
    obtain ⟨⟨bx0', bx1'⟩, ⟨by0', by1'⟩, bz0', bz1'⟩ := okB
    have wsx : IntKind.i64.wrap (a.x + b.x) = a.x + b.x := IntWalk.i64_in _ (by omega)
    have wsy : IntKind.i64.wrap (a.y + b.y) = a.y + b.y := IntWalk.i64_in _ (by omega)
    obtain ⟨rx, hrx⟩ : ∃ r, (a.x + b.x).tmod 2 = r := ⟨_, rfl⟩
    obtain ⟨ry, hry⟩ : ∃ r, (a.y + b.y).tmod 2 = r := ⟨_, rfl⟩
    have brx := tmod_bd (a.x + b.x) 2 (by omega)
    have bry := tmod_bd (a.y + b.y) 2 (by omega)
    rw [hrx] at brx
    rw [hry] at bry
    have wrx : IntKind.i64.wrap rx = rx := IntWalk.i64_in _ (by omega)
    have wry : IntKind.i64.wrap ry = ry := IntWalk.i64_in _ (by omega)
    have HX : Hid ((rx = 0 → 2 * (btP a b 1 2).x = a.x + b.x) ∧ (ry = 0 → 2 * (btP a b 1 2).y = a.y + b.y) ∧ (btP a b 1 2).ok) := by
      have q1 : (btP a b 1 2).x = a.x + 1 * (b.x - a.x) / 2 := rfl
      have q2 : (btP a b 1 2).y = a.y + 1 * (b.y - a.y) / 2 := rfl
      have q3 : (btP a b 1 2).z = a.z + 1 * (b.z - a.z) / 2 := rfl
      have m1 := Int.mul_tdiv_add_tmod (a.x + b.x) 2
      have m2 := Int.mul_tdiv_add_tmod (a.y + b.y) 2
      rw [hrx] at m1
      rw [hry] at m2
      refine ⟨fun h => by rw [q1]; omega, fun h => by rw [q2]; omega, ?_⟩
      unfold Pt.ok okc
      rw [q1, q2, q3]
      omega
    obtain ⟨ev, hev⟩ : ∃ t : Bool, decide (rx = 0 ∧ ry = 0) = t := ⟨_, rfl⟩
    have HEV : Hid (ev = true ↔ rx = 0 ∧ ry = 0) := by show ev = true ↔ _; rw [← hev]; exact decide_eq_true_iff
    have HAO : Hid (a.ok ∧ b.ok) := ⟨⟨⟨ax0', ax1'⟩, ⟨ay0', ay1'⟩, az0', az1'⟩, ⟨⟨bx0', bx1'⟩, ⟨by0', by1'⟩, bz0', bz1'⟩⟩
    clear brx bry hev ax0' ax1' ay0' ay1' az0' az1' bx0' bx1' by0' by1' bz0' bz1'
    go_cut [91] (fun s wx => wx = w9 ∧ s = .bool ev)
    case first =>
      by_cases g1 : rx = 0
      · have d1 : (rx == 0) = true := by simpa using g1
        by_cases g2 : ry = 0
        · have d2 : (ry == 0) = true := by simpa using g2
          have he : ev = true := HEV.out.2 ⟨g1, g2⟩
          subst he
          go_wp2_with fail
          go_meet
          exact ⟨rfl, rfl⟩
        · have d2 : (ry == 0) = false := by simpa using g2
          have he : ev = false := by cases h : ev; · rfl
                                     · exact absurd (HEV.out.1 h).2 g2
          subst he
          go_wp2_with fail
          go_meet
          exact ⟨rfl, rfl⟩
      · have d1 : (rx == 0) = false := by simpa using g1
        have he : ev = false := by cases h : ev; · rfl
                                   · exact absurd (HEV.out.1 h).1 g1
        subst he
        go_wp2_with fail
        go_meet
        exact ⟨rfl, rfl⟩
    case rest =>
    obtain ⟨hwc, rfl⟩ := hcut
    have hwc2 := hwc.symm
    subst hwc2
    clear hwc hrx hry wsx wsy wrx wry a0 a1 c0 c1
    go_upto_if 91 with fail
    go_cut [] (fun wx => Hid (CoS w wx b5 b7 p m sg o n f))
    case first =>
      cases ev with
      | false =>
        have HS10 := Lib.hid HS9.out.1
        go_wp2_with fail
        go_meet
        exact HS10
      | true =>
        have hev := HEV.out.1 rfl
        have a0 := HS9.out.2.1.c0
        have a1 := HS9.out.2.1.c1
        have a2 := HS9.out.2.1.c2
        have c0 := HS9.out.2.2.c0
        have c1 := HS9.out.2.2.c1
        have c2 := HS9.out.2.2.c2
        have CBt := fun W => Lib.hid (between_any a b 1 2 W (btP a b 1 2) 0 (by unfold btT; rw [if_pos HAO.out, if_neg (by omega)]) (by omega) (by omega) (by omega) (by omega))
        have HIM : Hid (InO (btP a b 1 2) n f true 0) := .inr (.inr ⟨HX.out.2.2, HOK.out.2.1, by omega, ⟨fun _ => .inl ⟨x1, x2, HAB.out.2.2.1, HAB.out.2.2.2, by rw [HAB.out.1, HAB.out.2.1]; exact in_mid _ a b (HX.out.1 hev.1) (HX.out.2.1 hev.2)⟩, fun _ => rfl⟩, rfl⟩)
        obtain ⟨q, hq⟩ : ∃ q, btP a b 1 2 = q := ⟨_, rfl⟩
        rw [hq] at CBt HIM
        clear hev hq HX HEV
        go_upto_region 14 with (go_at_call 18; (with_reducible refine ((CBt _).out.mono ?_)); rintro r w10 ⟨rfl, hb10⟩; have HS10 := Lib.hid (HS9.out.1.on hb10); clear hb10 HS9 CBt a0 a1 a2 c0 c1 c2)
        have bl := below_alloc w10 (Obj.cells #[.int .i64 q.x, .int .i64 q.y, .int .i64 q.z] 23)
        have HS11 : Hid (CoS w (w10.alloc (Obj.cells #[.int .i64 q.x, .int .i64 q.y, .int .i64 q.z] 23)) b5 b7 p m sg o n f ∧ B3 (w10.alloc (Obj.cells #[.int .i64 q.x, .int .i64 q.y, .int .i64 q.z] 23)) w10.heap.size q.x q.y q.z) := ⟨HS10.out.on bl, B3.new _ _ _ _ _⟩
        obtain ⟨w11, hw11⟩ : ∃ W, W = w10.alloc (Obj.cells #[.int .i64 q.x, .int .i64 q.y, .int .i64 q.z] 23) := ⟨_, rfl⟩
        obtain ⟨b17, hb17⟩ : ∃ x, x = w10.heap.size := ⟨_, rfl⟩
        rw [← hw11, ← hb17] at HS11
        rw [← hw11, ← hb17]
        clear hw11 hb17 bl HS10
        have q0 := HS11.out.2.c0
        have q1 := HS11.out.2.c1
        have q2 := HS11.out.2.c2
        have C2 := CIN q _ HS11.out.1 true 0 HIM.out
        go_wp2_with (go_at_call 9; (with_reducible refine ((C2.out).mono ?_)); rintro r w12 ⟨rfl, hb12⟩; have HS12 := Lib.hid (HS11.out.1.on hb12); clear hb12 HS11 C2 q0 q1 q2)
        go_meet
        exact HS12
    case rest =>
    rename World => w13
    have HS13 := hcut
    clear hcut HS9 HX HEV HAO HAB
    obtain ⟨v2, e2, hin2⟩ := inO_ex p (n + 1) (addP n f m)
    have HI2 := Lib.hid hin2
    have LP0 := Lib.hid (And.intro HS13.out.P.c0 HS13.out.P.lt)
    have LP1 := Lib.hid (And.intro HS13.out.P.c1 HS13.out.P.lt)
    have LP2 := Lib.hid (And.intro HS13.out.P.c2 HS13.out.P.lt)
    have LM0 := Lib.hid (And.intro HS13.out.M.c0 HS13.out.M.lt)
    have LM1 := Lib.hid (And.intro HS13.out.M.c1 HS13.out.M.lt)
    have LM2 := Lib.hid (And.intro HS13.out.M.c2 HS13.out.M.lt)
    have CCl : Hid (∀ W, Below w13.heap.size w13 W → Calls Tryd.prog 19 #[.slice (some ⟨sg, o, none⟩) n rc] W fun e w' => (∃ v, e = .returned v ∧ w'.ownsRow w13.heap.size 23 3 v n (rowP f n)) ∧ Below W.heap.size W w') := fun W hW => (clone_row sg o n rc f W (HS13.out.on hW).c (by omega)).mono fun e w' ⟨⟨v, h1, h2⟩, h3⟩ => ⟨⟨v, h1, own_base h2 hW.size⟩, h3⟩
    have CIn : Hid (∀ W tv, Below w13.heap.size w13 W → W.ownsRow w13.heap.size 23 3 tv (n + 1) (rowP (addP n f m) (n + 1)) → Calls Tryd.prog 9 #[.agg #[.int .i64 p.x, .int .i64 p.y, .int .i64 p.z], tv] W fun r w' => r = .returned (.tuple #[.bool v2, .int .i64 e2]) ∧ Below W.heap.size W w') := fun W tv hW ho => by
      obtain ⟨ao, cp, h1, h2, h3, h4⟩ := own_ptr ho
      rw [h1]
      exact inside_any p ao (n + 1) cp (addP n f m) W (HS13.out.p.on hW) h2 h3 h4 v2 e2 HI2.out
    clear hin2
    go_upto_region 17 with fail
    obtain ⟨ii, hi0, hz0, hz1, hz2⟩ := info_parts (show (Tryd.prog.info? 23).map (fun i => (i.zero, i.size, i.bytes)) = some (some (Value.agg #[.int .i64 0, .int .i64 0, .int .i64 0]), 3, 24) by kernel_rfl)
    have HI := Lib.hid (And.intro hi0 (And.intro hz0 (And.intro hz1 hz2)))
    clear hi0 hz0 hz1 hz2
    refine wp_region_each (fun L A W => ∃ (v : Nat → Value), A = ⟨#[_, _, _, _, _, _, _, _, _, _, _, _, _, _, _, _, _, _, _, _, _, v 21, v 22, _, _, _, _, _, _, _, _, _, _, _, _, _, _, _, _, _, _, _, _, _, _, _, _, _, _, _, _, _, _, _, _, _, _, _, _, _, _, _, _, _, _, _, _, _, _, _, _, _, _, _, _, _, _, _, _, _, _, _, _, _, _, _, _, _, _, _, _, _, _, _, _, _, _, _, _, _, _, _, _, _, _, _, _, _, _, _, _, _, _, _, v 114, v 115, v 116, v 117, v 118, v 119, v 120, v 121, v 122, v 123, _, _, _, _, _, _, _, _, _, _, _, _, _, _, _, _, _, _, _, _, _, _, _, _, _, _, _, _, _, _, _, _, _, _, _, _, _, _, _, _, _, _, _, _, _, _, _, _], []⟩ ∧ Vc17R b5 b7 sg o n rc p m f v2 e2 w13 L v W) (by kernel_rfl) (by kernel_rfl) ⟨fun jz => if jz = 115 then u115 else if jz = 116 then u116 else if jz = 117 then u117 else if jz = 118 then u118 else if jz = 119 then u119 else if jz = 120 then u120 else if jz = 121 then u121 else if jz = 114 then u114 else if jz = 122 then u122 else if jz = 123 then u123 else if jz = 21 then undef else if jz = 22 then undef else undef, rfl, ⟨Below.drew (Below.refl _ _), Had.none, Had.none, Had.none, Had.none, Had.none, Had.none, Had.none, Had.none, Had.none, Had.none, Had.none, Had.none, Had.none, Had.none, Had.none, Had.none, Had.none, Had.none, Had.none, Had.none, Had.none⟩⟩ (rs := [0, 1, 2, 3, 4, 5, 6, 7, 8, 9, 10, 11]) (by kernel_rfl) ?_ ?_
    · refine EachOf.cons [] rfl (by kernel_rfl) ?_ ?_
      · rintro L A W ⟨v, rfl, hR⟩ hi hw KK hK
        have q0 := (hR.st.cell (p := ⟨b5, 0, none⟩) LP0.out.2).trans LP0.out.1
        have q1 := (hR.st.cell (p := ⟨b5, 1, none⟩) LP1.out.2).trans LP1.out.1
        have q2 := (hR.st.cell (p := ⟨b5, 2, none⟩) LP2.out.2).trans LP2.out.1
        go_simp
        refine hK.out _ _ ?_
        exact ⟨(fun jz => if jz = 115 then .agg #[.int .i64 p.x, .int .i64 p.y, .int .i64 p.z] else v jz), rfl, ⟨hR.st, (fun _ => rfl), hR.f1.k, hR.w2.o, (fun h h2 => hR.c2 (upd_back h rfl) (upd_false h2)), hR.f3.k, hR.w4.o, (fun h h2 => hR.b4 (upd_back h rfl) (upd_false h2)), hR.w5.o, (fun h h2 => hR.c5 (upd_back h rfl) (upd_false h2)), hR.w6.o, hR.f6.k, hR.w7.o, hR.f7.k, hR.w8.o, hR.f8.k, hR.w9.o, hR.f9.k, hR.w10.o, hR.f10.k, hR.w11.o, hR.f11.k⟩⟩
      refine EachOf.cons [] rfl (by kernel_rfl) ?_ ?_
      · rintro L A W ⟨v, rfl, hR⟩ hi hw KK hK
        go_simp
        refine hK.out _ _ ?_
        exact ⟨(fun jz => if jz = 116 then .slice (some ⟨sg, o, none⟩) n rc else v jz), rfl, ⟨hR.st, hR.f0.k, (fun _ => rfl), hR.w2.o, (fun h h2 => hR.c2 (upd_back h rfl) (upd_false h2)), hR.f3.k, hR.w4.o, (fun h h2 => hR.b4 (upd_back h rfl) (upd_false h2)), hR.w5.o, (fun h h2 => hR.c5 (upd_back h rfl) (upd_false h2)), hR.w6.o, hR.f6.k, hR.w7.o, hR.f7.k, hR.w8.o, hR.f8.k, hR.w9.o, hR.f9.k, hR.w10.o, hR.f10.k, hR.w11.o, hR.f11.k⟩⟩
      refine EachOf.cons [1] rfl (by kernel_rfl) ?_ ?_
      · rintro L A W ⟨v, rfl, hR⟩ hi hw KK hK
        have e1 := hR.f1 (hw 1 (by simp))
        simp only [e1]
        clear e1
        go_simp
        go_at_call 19
        (with_reducible refine ((CCl.out _ hR.st).mono ?_))
        rintro e w2 ⟨⟨tv, rfl, ho⟩, hb⟩
        go_simp
        refine hK.out _ _ ?_
        exact ⟨(fun jz => if jz = 116 then .slice (some ⟨sg, o, none⟩) n rc else if jz = 117 then tv else v jz), rfl, ⟨below_on hR.st hb, hR.f0.k, (fun _ => rfl), (fun _ j hj => upd_on (hw j hj)), (fun _ _ => ho), hR.f3.k, hR.w4.o, (fun h h2 => by obtain ⟨b, h3, h4⟩ := hR.b4 (upd_back h rfl) (upd_false h2); exact ⟨b, h3, h4.on hb⟩), hR.w5.o, (fun h => absurd (hR.w5 (upd_back h rfl) 2 (by simp)) (by simp [hi])), hR.w6.o, hR.f6.k, hR.w7.o, hR.f7.k, hR.w8.o, hR.f8.k, hR.w9.o, hR.f9.k, hR.w10.o, hR.f10.k, hR.w11.o, hR.f11.k⟩⟩
      refine EachOf.cons [] rfl (by kernel_rfl) ?_ ?_
      · rintro L A W ⟨v, rfl, hR⟩ hi hw KK hK
        have q0 := (hR.st.cell (p := ⟨b7, 0, none⟩) LM0.out.2).trans LM0.out.1
        have q1 := (hR.st.cell (p := ⟨b7, 1, none⟩) LM1.out.2).trans LM1.out.1
        have q2 := (hR.st.cell (p := ⟨b7, 2, none⟩) LM2.out.2).trans LM2.out.1
        go_simp
        refine hK.out _ _ ?_
        exact ⟨(fun jz => if jz = 118 then .agg #[.int .i64 m.x, .int .i64 m.y, .int .i64 m.z] else v jz), rfl, ⟨hR.st, hR.f0.k, hR.f1.k, hR.w2.o, (fun h h2 => hR.c2 (upd_back h rfl) (upd_false h2)), (fun _ => rfl), hR.w4.o, (fun h h2 => hR.b4 (upd_back h rfl) (upd_false h2)), hR.w5.o, (fun h h2 => hR.c5 (upd_back h rfl) (upd_false h2)), hR.w6.o, hR.f6.k, hR.w7.o, hR.f7.k, hR.w8.o, hR.f8.k, hR.w9.o, hR.f9.k, hR.w10.o, hR.f10.k, hR.w11.o, hR.f11.k⟩⟩
      refine EachOf.cons [3] rfl (by kernel_rfl) ?_ ?_
      · rintro L A W ⟨v, rfl, hR⟩ hi hw KK hK
        have e3 := hR.f3 (hw 3 (by simp))
        simp only [e3]
        clear e3
        go_simp
        refine hK.out _ _ ?_
        have hb : Below W.heap.size W (W.alloc (Obj.cells #[Value.int IntKind.i64 m.x, Value.int IntKind.i64 m.y, Value.int IntKind.i64 m.z] 23)) := below_alloc _ _
        exact ⟨(fun jz => if jz = 118 then .agg #[.int .i64 m.x, .int .i64 m.y, .int .i64 m.z] else if jz = 119 then .slice (some ⟨W.heap.size, 0, none⟩) 1 1 else v jz), rfl, ⟨below_on hR.st hb, hR.f0.k, hR.f1.k, hR.w2.o, (fun h h2 => own_on (hR.c2 (upd_back h rfl) (upd_false h2)) hb), (fun _ => rfl), (fun _ j hj => upd_on (hw j hj)), (fun _ _ => ⟨W.heap.size, rfl, B3.new _ _ _ _ _⟩), hR.w5.o, (fun h => absurd (hR.w5 (upd_back h rfl) 4 (by simp)) (by simp [hi])), hR.w6.o, hR.f6.k, hR.w7.o, hR.f7.k, hR.w8.o, hR.f8.k, hR.w9.o, hR.f9.k, hR.w10.o, hR.f10.k, hR.w11.o, hR.f11.k⟩⟩
      refine EachOf.cons [2, 4] rfl (by kernel_rfl) ?_ ?_
      · rintro L A W ⟨v, rfl, hR⟩ hi hw KK hK
        have ho := hR.c2 (hw 2 (by simp)) hi
        obtain ⟨b, eb, hB⟩ := hR.b4 (hw 4 (by simp)) hi
        have h6 : L 6 = false := hR.w6.not hi rfl
        simp only [eb]
        refine wp_append_own W (.tmp 117) (.tmp 119) 24 (by rfl) w13.heap.size 23 ii (.agg #[.int .i64 0, .int .i64 0, .int .i64 0]) 3 24 Tryd.underlying24 HI.out.1 HI.out.2.1 HI.out.2.2.1 HI.out.2.2.2 rfl (by decide) (v 117) n (rowP f n) (by rfl) ho ⟨b, 0, none⟩ 1 1 (encP m) (by rfl) rfl (news_b3 hB) (by intro u hu; simp [encP] at hu; rcases hu with rfl | rfl | rfl <;> rfl) (by unfold maxLen; omega) (by omega) hR.st.size ?_
        intro tv2 w2 hown hgrow _
        have hbel := below_grown hR.st ho hgrow
        rw [← rowP_add] at hown
        refine hK.out _ _ ?_
        exact ⟨(fun jz => if jz = 119 then .slice (some ⟨b, 0, none⟩) 1 1 else if jz = 120 then tv2 else v jz), rfl, ⟨hbel, hR.f0.k, hR.f1.k, hR.w2.o, (fun _ h => by simp [upd_self] at h), hR.f3.k, hR.w4.o, (fun _ h => by simp [upd_self] at h), (fun _ j hj => upd_on (hw j hj)), (fun _ _ => hown), hR.w6.o, hR.f6.k, hR.w7.o, hR.f7.k, hR.w8.o, hR.f8.k, hR.w9.o, hR.f9.k, hR.w10.o, hR.f10.k, hR.w11.o, hR.f11.k⟩⟩
      refine EachOf.cons [0, 5] rfl (by kernel_rfl) ?_ ?_
      · rintro L A W ⟨v, rfl, hR⟩ hi hw KK hK
        have ho := hR.c5 (hw 5 (by simp)) hi
        have e0 := hR.f0 (hw 0 (by simp))
        simp only [e0]
        clear e0
        go_simp
        go_at_call 9
        (with_reducible refine ((CIn.out _ _ hR.st ho).mono ?_))
        rintro e w2 ⟨rfl, hb⟩
        go_simp
        refine hK.out _ _ ?_
        exact ⟨(fun jz => if jz = 115 then .agg #[.int .i64 p.x, .int .i64 p.y, .int .i64 p.z] else if jz = 121 then .tuple #[.bool v2, .int .i64 e2] else v jz), rfl, ⟨below_on hR.st hb, (fun _ => rfl), hR.f1.k, hR.w2.o, (fun h h2 => absurd (hw 5 (by simp)) (by rw [upd_false h2]; simp)), hR.f3.k, hR.w4.o, (fun h h2 => absurd (hw 5 (by simp)) (by rw [upd_false h2]; simp)), hR.w5.o, (fun _ h => by simp [upd_self] at h), (fun _ j hj => upd_on (hw j hj)), (fun _ => rfl), hR.w7.o, hR.f7.k, hR.w8.o, hR.f8.k, hR.w9.o, hR.f9.k, hR.w10.o, hR.f10.k, hR.w11.o, hR.f11.k⟩⟩
      refine EachOf.cons [6] rfl (by kernel_rfl) ?_ ?_
      · rintro L A W ⟨v, rfl, hR⟩ hi hw KK hK
        have e6 := hR.f6 (hw 6 (by simp))
        simp only [e6]
        clear e6
        go_simp
        refine hK.out _ _ ?_
        exact ⟨(fun jz => if jz = 121 then .tuple #[.bool v2, .int .i64 e2] else if jz = 114 then .tuple #[.bool v2, .int .i64 e2] else v jz), rfl, ⟨hR.st, hR.f0.k, hR.f1.k, hR.w2.o, (fun h h2 => hR.c2 (upd_back h rfl) (upd_false h2)), hR.f3.k, hR.w4.o, (fun h h2 => hR.b4 (upd_back h rfl) (upd_false h2)), hR.w5.o, (fun h h2 => hR.c5 (upd_back h rfl) (upd_false h2)), hR.w6.o, (fun _ => rfl), (fun _ j hj => upd_on (hw j hj)), (fun _ => rfl), hR.w8.o, hR.f8.k, hR.w9.o, hR.f9.k, hR.w10.o, hR.f10.k, hR.w11.o, hR.f11.k⟩⟩
      refine EachOf.cons [7] rfl (by kernel_rfl) ?_ ?_
      · rintro L A W ⟨v, rfl, hR⟩ hi hw KK hK
        have e7 := hR.f7 (hw 7 (by simp))
        simp only [e7]
        clear e7
        go_simp
        refine hK.out _ _ ?_
        exact ⟨(fun jz => if jz = 114 then .tuple #[.bool v2, .int .i64 e2] else if jz = 122 then .bool v2 else v jz), rfl, ⟨hR.st, hR.f0.k, hR.f1.k, hR.w2.o, (fun h h2 => hR.c2 (upd_back h rfl) (upd_false h2)), hR.f3.k, hR.w4.o, (fun h h2 => hR.b4 (upd_back h rfl) (upd_false h2)), hR.w5.o, (fun h h2 => hR.c5 (upd_back h rfl) (upd_false h2)), hR.w6.o, hR.f6.k, hR.w7.o, (fun _ => rfl), (fun _ j hj => upd_on (hw j hj)), (fun _ => rfl), hR.w9.o, hR.f9.k, hR.w10.o, hR.f10.k, hR.w11.o, hR.f11.k⟩⟩
      refine EachOf.cons [7] rfl (by kernel_rfl) ?_ ?_
      · rintro L A W ⟨v, rfl, hR⟩ hi hw KK hK
        have e7 := hR.f7 (hw 7 (by simp))
        simp only [e7]
        clear e7
        go_simp
        refine hK.out _ _ ?_
        exact ⟨(fun jz => if jz = 114 then .tuple #[.bool v2, .int .i64 e2] else if jz = 123 then .int .i64 e2 else v jz), rfl, ⟨hR.st, hR.f0.k, hR.f1.k, hR.w2.o, (fun h h2 => hR.c2 (upd_back h rfl) (upd_false h2)), hR.f3.k, hR.w4.o, (fun h h2 => hR.b4 (upd_back h rfl) (upd_false h2)), hR.w5.o, (fun h h2 => hR.c5 (upd_back h rfl) (upd_false h2)), hR.w6.o, hR.f6.k, hR.w7.o, (fun _ => rfl), hR.w8.o, hR.f8.k, (fun _ j hj => upd_on (hw j hj)), (fun _ => rfl), hR.w10.o, hR.f10.k, hR.w11.o, hR.f11.k⟩⟩
      refine EachOf.cons [8] rfl (by kernel_rfl) ?_ ?_
      · rintro L A W ⟨v, rfl, hR⟩ hi hw KK hK
        have e8 := hR.f8 (hw 8 (by simp))
        simp only [e8]
        clear e8
        go_simp
        refine hK.out _ _ ?_
        exact ⟨(fun jz => if jz = 122 then .bool v2 else if jz = 21 then .bool v2 else v jz), rfl, ⟨hR.st, hR.f0.k, hR.f1.k, hR.w2.o, (fun h h2 => hR.c2 (upd_back h rfl) (upd_false h2)), hR.f3.k, hR.w4.o, (fun h h2 => hR.b4 (upd_back h rfl) (upd_false h2)), hR.w5.o, (fun h h2 => hR.c5 (upd_back h rfl) (upd_false h2)), hR.w6.o, hR.f6.k, hR.w7.o, hR.f7.k, hR.w8.o, (fun _ => rfl), hR.w9.o, hR.f9.k, (fun _ j hj => upd_on (hw j hj)), (fun _ => rfl), hR.w11.o, hR.f11.k⟩⟩
      refine EachOf.cons [9] rfl (by kernel_rfl) ?_ ?_
      · rintro L A W ⟨v, rfl, hR⟩ hi hw KK hK
        have e9 := hR.f9 (hw 9 (by simp))
        simp only [e9]
        clear e9
        go_simp
        refine hK.out _ _ ?_
        exact ⟨(fun jz => if jz = 123 then .int .i64 e2 else if jz = 22 then .int .i64 e2 else v jz), rfl, ⟨hR.st, hR.f0.k, hR.f1.k, hR.w2.o, (fun h h2 => hR.c2 (upd_back h rfl) (upd_false h2)), hR.f3.k, hR.w4.o, (fun h h2 => hR.b4 (upd_back h rfl) (upd_false h2)), hR.w5.o, (fun h h2 => hR.c5 (upd_back h rfl) (upd_false h2)), hR.w6.o, hR.f6.k, hR.w7.o, hR.f7.k, hR.w8.o, hR.f8.k, hR.w9.o, (fun _ => rfl), hR.w10.o, hR.f10.k, (fun _ j hj => upd_on (hw j hj)), (fun _ => rfl)⟩⟩
      exact EachOf.nil
    rintro L A W18 ⟨vt, rfl, hR⟩ hL
    have e10 := hR.f10 (hL 10 (by simp))
    have e11 := hR.f11 (hL 11 (by simp))
    simp only [e10, e11]
    have HS18 := Lib.hid (HS13.out.on hR.st)
    clear e10 e11 hR hL LP0 LP1 LP2 LM0 LM1 LM2 CCl CIn HS13 HI
    have HV2 : Hid (e2 = 0 → v = true → v2 = true) := fun h1 h2 => by
      rcases HI2.out with ⟨_, _, h⟩ | ⟨_, _, _, _, h⟩ | ⟨_, _, _, h3, _⟩
      · omega
      · omega
      · exact h3.2 (in_more p n (n + 1) f (addP n f m) (by omega) (fun i hi => if_pos hi) (HOK.out.2.2.1 h2))
    clear HI2
    go_upto_region 18 with fail
    go_cut [132] (fun s wx => s = .bool false ∧ wx = W18)
    case first =>
      by_cases h2 : e2 = 0
      · subst h2
        cases v with
        | false =>
          go_wp2_with fail
          go_meet
          exact ⟨rfl, rfl⟩
        | true =>
          have h3 : v2 = true := HV2.out rfl rfl
          subst h3
          go_wp2_with fail
          go_meet
          exact ⟨rfl, rfl⟩
      · have d2 : (e2 == 0) = false := by simpa using h2
        go_wp2_with fail
        go_meet
        exact ⟨rfl, rfl⟩
    case rest =>
    obtain ⟨rfl, hwc⟩ := hcut
    have hwc2 := hwc.symm
    subst hwc2
    clear hwc HV2
    go_upto_region 20 with fail
    have hc0 := HS18.out.c 0 hn0
    rw [Nat.zero_mul, Nat.add_zero] at hc0
    have r0 := hc0.1
    have lz : (0 : Int) < (n : Int) := by omega
    have S0 : Hid ((∀ k, k < 0 → (f k).x ≤ (f 0).x) ∧ ∃ k, k < n ∧ (f 0).x = (f k).x) := ⟨fun k h => by omega, 0, hn0, rfl⟩
    obtain ⟨z0, hz0⟩ : ∃ z, (f 0).x = z := ⟨_, rfl⟩
    rw [hz0] at r0 S0
    clear hc0 hz0
    go_upto_region 21 with fail
    clear r0 lz
    go_wp2_with fail
    go_loopg [23, 139] n (fun mm s23 s139 wx => ∃ (i : Nat) (z : Int), s23 = .int .i64 z ∧ s139 = .int .i64 (i : Int) ∧ mm = n - i ∧ i ≤ n ∧ Hid (CoS w wx b5 b7 p m sg o n f) ∧ Hid ((∀ k, k < i → (f k).x ≤ z) ∧ ∃ k, k < n ∧ z = (f k).x))
    case atStart => exact ⟨0, z0, rfl, rfl, rfl, by omega, HS18, S0⟩
    case round =>
      clear S0 HS18
      obtain ⟨i, z, rfl, rfl, rfl, hi, HS, HZ⟩ := hrel
      rename World => W1
      by_cases hlt : i < n
      · have wi2 : IntKind.i64.wrap ((i : Int) + 1) = ((i + 1 : Nat) : Int) := by rw [IntWalk.i64_in _ (by omega)]; omega
        have li : (i : Int) < (n : Int) := by omega
        have hci := HS.out.c i hlt
        obtain ⟨q, hq⟩ : ∃ q, f i = q := ⟨_, rfl⟩
        have HQ := Lib.hid hq
        rw [hq] at hci
        have q0 := hci.1
        have q1 := hci.2.1
        have q2 := hci.2.2
        have bl := below_alloc W1 (Obj.cells #[.int .i64 q.x, .int .i64 q.y, .int .i64 q.z] 23)
        have hB := B3.new W1 q.x q.y q.z 23
        have HS2 := Lib.hid (HS.out.on bl)
        obtain ⟨W2, hW2⟩ : ∃ W, W = W1.alloc (Obj.cells #[.int .i64 q.x, .int .i64 q.y, .int .i64 q.z] 23) := ⟨_, rfl⟩
        obtain ⟨b25, hb25⟩ : ∃ x, x = W1.heap.size := ⟨_, rfl⟩
        rw [← hW2] at HS2 hB
        rw [← hb25] at hB
        have HN : Hid (W2 = W1.alloc (Obj.cells #[.int .i64 q.x, .int .i64 q.y, .int .i64 q.z] 23) ∧ b25 = W1.heap.size) := ⟨hW2, hb25⟩
        have HM : Hid ((∀ k, k < i + 1 → (f k).x ≤ max z q.x) ∧ ∃ k, k < n ∧ max z q.x = (f k).x) := by
          obtain ⟨k, hk, hz⟩ := HZ.out.2
          refine ⟨fun j hj => ?_, ?_⟩
          · by_cases e : j = i
            · rw [e, hq]; omega
            · have := HZ.out.1 j (by omega); omega
          · by_cases g : z ≤ q.x
            · exact ⟨i, hlt, by rw [hq]; omega⟩
            · exact ⟨k, hk, by omega⟩
        obtain ⟨zm, hzm⟩ : ∃ x, max z q.x = x := ⟨_, rfl⟩
        have HZM : Hid (max z q.x = zm) := hzm
        rw [hzm] at HM
        have d0 := hB.c0
        clear hq hci bl hW2 hb25 hB HS HZ
        go_upto_region 24 with fail
        rw [← HN.out.1, ← HN.out.2]
        clear HN q0 q1 q2
        by_cases g : z ≤ q.x
        · have em : zm = q.x := by rw [← HZM.out]; omega
          have gm : max z q.x = zm := HZM.out
          clear hzm em
          go_wp2_with fail
          go_roundg (n - (i + 1))
          case measure => omega
          case rel => exact ⟨i + 1, zm, by first | rfl | (rw [HZM.out]) | (simp only [HZM.out]) | simp [HZM.out], rfl, rfl, by omega, HS2, HM⟩
        · have em : zm = z := by rw [← HZM.out]; omega
          have gm : max z q.x = zm := HZM.out
          clear hzm em
          go_wp2_with fail
          go_roundg (n - (i + 1))
          case measure => omega
          case rel => exact ⟨i + 1, zm, by first | rfl | (rw [HZM.out]) | (simp only [HZM.out]) | simp [HZM.out], rfl, rfl, by omega, HS2, HM⟩
      · have ei : i = n := by omega
        have li : ¬ (i : Int) < (n : Int) := by omega
        obtain ⟨k, hk, hz⟩ := HZ.out.2
        have okk := (HOK.out.2.1 k hk).1
        unfold okc at okk
        rw [← hz] at okk
        have wz : IntKind.i64.wrap (z + 1) = z + 1 := IntWalk.i64_in _ (by omega)
        have hnot : ¬ InQ ⟨z + 1, p.y, 0⟩ n f := not_in_beyond _ n f (fun j hj => by have := HZ.out.1 j (by omega); show (f j).x < z + 1; omega)
        have okp := HOK.out.1.2.1
        have p1 := HS.out.P.c1
        by_cases hzz : z = 1048576
        · have C9 := CIN ⟨z + 1, p.y, 0⟩ _ HS.out false 1 (.inl ⟨.inl (fun h => by have h1 : okc (z + 1) := h.1; unfold okc at h1; omega), rfl, rfl⟩)
          have C10 : Hid (Calls Tryd.prog 9 #[.agg #[.int .i64 (z + 1), .int .i64 p.y, .int .i64 0], .slice (some ⟨sg, o, none⟩) n rc] W1 fun r w' => r = .returned (.tuple #[.bool false, .int .i64 1]) ∧ Below W1.heap.size W1 w') := C9.out
          have dz : (z == 1048576) = true := by simpa using hzz
          have HST := Lib.hid HS.out.st
          clear C9 hzz hnot okp okk hz HZ HS HOK ei
          go_wp2_with (go_at_call 9; (with_reducible refine ((C10.out).mono ?_)); rintro r w19 ⟨rfl, hb19⟩; have HE := Lib.hid (below_on HST.out hb19); clear hb19)
          all_goals first
            | (go_ret; exact ⟨rfl, HE.out⟩)
            | (exfalso; rename_i h1 h2; have h3 : some undef = some (Value.bool _) := h1; simp [undef] at h3; done)
            | (go_ret; exact ⟨by simp [dz], HE.out⟩)
            | (exfalso; rename_i h1; have h3 : some undef = some (Value.bool _) := h1; simp [undef] at h3; done)
        · have C9 := CIN ⟨z + 1, p.y, 0⟩ _ HS.out false 0 (.inr (.inr ⟨⟨show okc (z + 1) by unfold okc; omega, okp, by show okc 0; unfold okc; omega⟩, HOK.out.2.1, by omega, ⟨fun q => (by cases q), fun q => absurd q hnot⟩, rfl⟩))
          have C10 : Hid (Calls Tryd.prog 9 #[.agg #[.int .i64 (z + 1), .int .i64 p.y, .int .i64 0], .slice (some ⟨sg, o, none⟩) n rc] W1 fun r w' => r = .returned (.tuple #[.bool false, .int .i64 0]) ∧ Below W1.heap.size W1 w') := C9.out
          have HST := Lib.hid HS.out.st
          clear C9 hnot okp okk hz HZ HS HOK ei
          go_wp2_with (go_at_call 9; (with_reducible refine ((C10.out).mono ?_)); rintro r w19 ⟨rfl, hb19⟩; have HE := Lib.hid (below_on HST.out hb19); clear hb19)
          all_goals first
            | (go_ret; exact ⟨rfl, HE.out⟩)
            | (exfalso; rename_i h1 h2; have h3 : some undef = some (Value.bool _) := h1; simp [undef] at h3; done)
  · have hv : v = false := by
      rcases HIN.out with ⟨_, h, _⟩ | ⟨_, _, _, h, _⟩ | ⟨_, _, _, _, h⟩
      · exact h
      · exact h
      · exact absurd h he
    subst hv
    have hne : (e != 0) = true := by simpa using he
    clear HIN
    go_wp2_with fail
    go_ret
    exact ⟨rfl, HS3.out.st⟩
end Go.Proofs.YtabpnkpedcgcpaaDoor
