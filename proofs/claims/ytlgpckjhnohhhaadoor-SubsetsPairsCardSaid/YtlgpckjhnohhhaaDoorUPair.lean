/- Layer 7: the law SubsetsPairs, walked. -/
import Derived.Test.YtlgpckjhnohhhaaDoorUPaC
import Derived.Laws.EntriesVeiled
namespace Go.Proofs.YtlgpckjhnohhhaaDoor
open Go.ChangeShapes Go.WideShapes Go.ChangeAt Go.RowKit Go.Joins Go.Deep Go.Shelf
set_option linter.unusedVariables false

theorem ids_at {W : World} {ra : Option Addr} {l : List Nat} (h : Idx W ra l) {j : Nat} (hj : j < l.length) : ∃ g o, ra = some ⟨g, o, none⟩ ∧ W.cell? ⟨g, o + j, none⟩ = some (.int .i64 ((l.getD j 0 : Nat) : Int)) := by
  obtain ⟨g, o, h1, _, h3⟩ := h (by omega)
  exact ⟨g, o, h1, h3 j hj⟩
theorem compact_at {zs : List Int} (ha : Asc zs) {lo : Nat} {w : World} {g cp : Nat} (h : NRow lo zs.length w g cp (nth zs)) (hN : zs.length ≤ 4096) :
    Calls Tryd.prog 30 #[.slice (some ⟨g, 0, none⟩) zs.length cp] w fun e w' => e = .returned (.slice (some ⟨g, 0, none⟩) zs.length cp) ∧ Only (fun q => q = g) w w' := by
  have C := compact_any zs rfl h hN
  rw [compact_asc ha] at C
  exact C.mono fun e w' ⟨h1, h2, _⟩ => ⟨h1, h2⟩
theorem z_at {W : World} {g j : Nat} {zs : List Int} {N : Nat} (h : ZRow W (some ⟨g, 0, none⟩) zs) (hN : zs.length = N) (hj : j < N) : W.cell? ⟨g, j, none⟩ = some (.int .i64 (nth zs j)) ∧ g < W.heap.size := by
  obtain ⟨g', o', e, h2, h3⟩ := h (by omega)
  injection e with e
  injection e with e1 e2
  subst e1; subst e2
  have := h3 j (by omega)
  rw [Nat.zero_add] at this
  exact ⟨this, h2⟩
structure PaiR (g N M i mi : Nat) (x y T : Int) (Wc : World) (L : Nat → Bool) (v : Nat → Value) (W : World) : Prop where
  st : Below Wc.heap.size Wc W
  w2 : Had L 2 (∀ j ∈ [0, 1], L j = true)
  w3 : Had L 3 (∀ j ∈ [2], L j = true)
  w6 : Had L 6 (∀ j ∈ [5], L j = true)
  w7 : Had L 7 (∀ j ∈ [6], L j = true)
  w9 : Had L 9 (∀ j ∈ [7, 8], L j = true)
  w10 : Had L 10 (∀ j ∈ [4, 9], L j = true)
  w11 : Had L 11 (∀ j ∈ [10], L j = true)
  w12 : Had L 12 (∀ j ∈ [3, 11], L j = true)
  w14 : Had L 14 (∀ j ∈ [12, 13], L j = true)
  f0 : Had L 0 (v 74 = .slice (some ⟨g, 0, none⟩) (N) (M))
  f1 : Had L 1 (v 75 = .int .i64 (i : Int))
  f2 : Had L 2 (v 76 = .pointer (some ⟨g, i, none⟩))
  f3 : Had L 3 (v 77 = .int .i64 x)
  f4 : Had L 4 (v 78 = .slice (some ⟨g, 0, none⟩) (N) (M))
  f5 : Had L 5 (v 79 = .slice (some ⟨g, 0, none⟩) (N) (M))
  f6 : Had L 6 (v 80 = .int .i64 (N : Int))
  f7 : Had L 7 (v 81 = .int .i64 ((N : Int) - 1))
  f8 : Had L 8 (v 82 = .int .i64 (i : Int))
  f9 : Had L 9 (v 83 = .int .i64 (mi : Int))
  f10 : Had L 10 (v 84 = .pointer (some ⟨g, mi, none⟩))
  f11 : Had L 11 (v 85 = .int .i64 y)
  f12 : Had L 12 (v 86 = .int .i64 T)
  f13 : Had L 13 (v 87 = .int .i64 T)
  f14 : Had L 14 (v 88 = .bool false)
set_option maxRecDepth 100000 in
set_option maxHeartbeats 64000000 in
theorem lawPairs_any (ra : Option Addr) (n c : Nat) (f : Nat → Int) (sum : Int) (w : World) (hr : IRow w ra n f) (hd : DB w) (hn : n ≤ 9223372036854775807) :
    Calls Tryd.prog 6 #[.slice ra n c, .int .i64 sum] w fun e w' => e = .returned (.bool true) ∧ Below w.heap.size w w' := by
  have hb1 : Below w.heap.size w (w.alloc (Obj.cells #[.int .i64 sum] 3)) := ab _ _
  obtain ⟨w1, hw1⟩ : ∃ W, W = w.alloc (Obj.cells #[.int .i64 sum] 3) := ⟨_, rfl⟩
  obtain ⟨sb, hsb⟩ : ∃ x, x = w.heap.size := ⟨_, rfl⟩
  have hxl : sb < w1.heap.size := by rw [hw1, hsb]; simp
  have hxc : w1.cell? ⟨sb, 0, none⟩ = some (.int .i64 sum) := by rw [hw1, hsb]; simp
  rw [← hw1] at hb1
  have HB := Lib.hid hb1
  have HX := Lib.hid (fun W (h : Below w1.heap.size w1 W) => (h.cell (p := ⟨sb, 0, none⟩) hxl).trans hxc)
  have HXL := Lib.hid hxl
  have HR := Lib.hid (hr.on hb1)
  have CA := Lib.hid (awake_any w1 (hd.on hb1))
  have HD := Lib.hid (hd.on hb1)
  have CG := fun W (h : Below w1.heap.size w1 W) => Lib.hid (Given_any ra n c f W (HR.out.on h) hn)
  clear hr hd hb1 hxl hxc
  by_cases hlong : 10 < n
  · have l1 : (n : Int) > 10 := by omega
    clear hlong
    go_enter Tryd.func6, Tryd.ntmps6
    go_upto_region 1 with fail
    rw [← hsb, ← hw1]
    clear hsb hw1
    go_wp2_with (first
      | (go_at_call 9; (with_reducible refine ((CA.out).mono ?_)); rintro e w2 ⟨rfl, hb2⟩; have q2 := HX.out _ hb2))
    go_ret
    exact ⟨rfl, below_on HB.out hb2⟩
  have l1 : ¬ (n : Int) > 10 := by omega
  by_cases hg : givE n f = 0
  case neg =>
    have q : (givE n f != 0) = true := by simpa using hg
    generalize givE n f = er at *
    clear hlong hg
    go_enter Tryd.func6, Tryd.ntmps6
    go_upto_region 1 with fail
    rw [← hsb, ← hw1]
    clear hsb hw1
    go_wp2_with (first
      | (go_at_call 9; (with_reducible refine ((CA.out).mono ?_)); rintro e w2 ⟨rfl, hb2⟩; have q2 := HX.out _ hb2)
      | (go_at_call 13; (with_reducible refine (((CG _ hb2).out).mono ?_)); rintro e w5 ⟨rfl, rfl⟩))
    go_ret
    exact ⟨rfl, below_on HB.out hb2⟩
  have hok : okF n f = true := by
    unfold givE at hg
    split at hg
    · cases hg
    · split at hg
      · assumption
      · cases hg
  by_cases hs1 : sum < -1152921504606846976
  · have l2 : decide (sum < -1152921504606846976) = true := decide_eq_true hs1
    rw [hg] at CG
    clear hlong hg hok
    go_enter Tryd.func6, Tryd.ntmps6
    go_upto_region 1 with fail
    rw [← hsb, ← hw1]
    clear hsb hw1
    go_wp2_with (first
      | (go_at_call 9; (with_reducible refine ((CA.out).mono ?_)); rintro e w2 ⟨rfl, hb2⟩; have q2 := HX.out _ hb2)
      | (go_at_call 13; (with_reducible refine (((CG _ hb2).out).mono ?_)); rintro e w5 ⟨rfl, rfl⟩))
    go_ret
    exact ⟨rfl, below_on HB.out hb2⟩
  by_cases hs2 : sum > 1152921504606846976
  · rw [hg] at CG
    clear hlong hg hok
    go_enter Tryd.func6, Tryd.ntmps6
    go_upto_region 1 with fail
    rw [← hsb, ← hw1]
    clear hsb hw1
    go_wp2_with (first
      | (go_at_call 9; (with_reducible refine ((CA.out).mono ?_)); rintro e w2 ⟨rfl, hb2⟩; have q2 := HX.out _ hb2)
      | (go_at_call 13; (with_reducible refine (((CG _ hb2).out).mono ?_)); rintro e w5 ⟨rfl, rfl⟩))
    go_ret
    exact ⟨rfl, below_on HB.out hb2⟩
  have hf := of_decide_eq_true hok
  have hn11 : n ≤ 11 := by omega
  have hln : (allS f n).length ≤ 1024 := Nat.le_trans (allS_len f n) (Nat.le_trans (Nat.pow_le_pow_right (by decide) (show n ≤ 10 by omega)) (by decide))
  have hpos := allS_pos f n
  have HAS := Lib.hid (allS_asc f n)
  have H0 : decide ((0 : Int) ∈ allS f n) = true := decide_eq_true ((allS_mem f n 0).2 ⟨fun _ => false, by
    have : ∀ k, smS (fun _ => false) f k = 0 := fun k => by
      induction k with
      | zero => rfl
      | succ k ih => rw [smS, ih]; rfl
    exact this n⟩)
  have C1 := fun W (h : Below w1.heap.size w1 W) => Lib.hid (Sums_ok ra n c f W (HR.out.on h) (HD.out.on h) hn11 hok)
  have CIS := fun W g gc (h : ZRow W (some ⟨g, 0, none⟩) (allS f n)) => Lib.hid (isSorted_any (some ⟨g, 0, none⟩) gc (allS f n) W h HAS.out hpos (by omega))
  have CCL := fun W g gc (h : ZRow W (some ⟨g, 0, none⟩) (allS f n)) => Lib.hid (clone_any (some ⟨g, 0, none⟩) (allS f n).length gc (nth (allS f n)) W h (by omega))
  have CCO := fun lo W g gc (h : NRow lo (allS f n).length W g gc (nth (allS f n))) => Lib.hid (compact_at HAS.out h (by omega))
  have CON := fun lo pa pc (W : World) (h : W.ownsRow lo 3 1 (.slice pa (allS f n).length pc) (allS f n).length (rowI (allS f n).length (nth (allS f n)))) => Lib.hid (own_nrow h hpos)
  have CN := fun x W g gc (h : ZRow W (some ⟨g, 0, none⟩) (allS f n)) => Lib.hid (contains_any (some ⟨g, 0, none⟩) gc (allS f n) x W h (by omega))
  have CN0 := fun W g gc (h : ZRow W (some ⟨g, 0, none⟩) (allS f n)) => CN 0 W g gc h
  rw [H0] at CN0
  have CT := fun W (h : Below w1.heap.size w1 W) => Lib.hid (total_any ra n c f W (HR.out.on h) hn11 hf)
  have CF := fun W (h : Below w1.heap.size w1 W) => Lib.hid (Find_ok ra n c f sum W (HR.out.on h) (HD.out.on h) hn11 hok)
  have CNr := fun W (h : Below w1.heap.size w1 W) => Lib.hid (Nearest_ok ra n c f sum W (HR.out.on h) (HD.out.on h) hn11 hok (by omega) (by omega))
  have HPR := Lib.hid (fun i (hi : i < (allS f n).length) => asc_mirror (T := totS f n) HAS.out (fun x hx => allS_mirror f n x hx) i hi)
  have HTB : Hid (-2305843009213693952 ≤ totS f n ∧ totS f n ≤ 2305843009213693952) := by
    have := smS_bd (p := fun _ => true) (f := f) (n := n) (B := 1125899906842624) (by decide) hf
    unfold totS
    exact ⟨by omega, by omega⟩
  have HFM := Lib.hid (fun (p : Nat → Bool) (h : smS p f n = sum) => (allS_mem f n sum).2 ⟨p, h⟩)
  have HNF := Lib.hid (fun (h : ∀ x, ¬ Fam f n sum 0 x) (hm : sum ∈ allS f n) => by
    obtain ⟨p, e⟩ := (allS_mem f n sum).1 hm
    exact h (ixs p n) ⟨p, rfl, e, Nat.zero_le _⟩)
  have HABD := Lib.hid (fun j (hj : j < (allS f n).length) => allS_bd hn11 hf j hj)
  have HNM := Lib.hid (fun m (h : NrM (fun s => smS (bitI n s) f n) (2 ^ n) sum m) => (show m ∈ allS f n ∧ (-2305843009213693952 ≤ m ∧ m ≤ 2305843009213693952) ∧ ∀ j, j < (allS f n).length → dis m sum < dis (nth (allS f n) j) sum ∨ dis m sum = dis (nth (allS f n) j) sum ∧ m ≤ nth (allS f n) j from by
    obtain ⟨⟨s, hs, e⟩, h2⟩ := h
    have hbd := smS_bd (p := bitI n s) (f := f) (n := n) (B := 1125899906842624) (by decide) hf
    have e' : smS (bitI n s) f n = m := e
    refine ⟨(allS_mem f n m).2 ⟨_, e⟩, ⟨by omega, by omega⟩, fun j hj => ?_⟩
    have hm : nth (allS f n) j ∈ allS f n := by rw [nth_get _ _ hj]; exact List.getElem_mem hj
    obtain ⟨p, ep⟩ := (allS_mem f n _).1 hm
    obtain ⟨s', hs', hb⟩ := bitI_all p n
    have := h2 s' hs'
    have e2 : (fun s => smS (bitI n s) f n) s' = nth (allS f n) j := (smS_congr hb).trans ep
    rw [e2] at this
    exact this))
  have HPS := Lib.hid (fun (l : List Nat) (h : Fam f n sum 0 l) => (show sum ∈ allS f n ∧ (∀ k, k < l.length → l.getD k 0 < n) ∧ (∀ k, k + 1 < l.length → l.getD k 0 < l.getD (k + 1) 0) ∧ preS f l l.length = sum ∧ ∀ k, k ≤ l.length → -(k * 1125899906842624) ≤ preS f l k ∧ preS f l k ≤ k * 1125899906842624 from by
    obtain ⟨p, rfl, e, _⟩ := h
    exact ⟨(allS_mem f n sum).2 ⟨p, e⟩, fun k hk => ixs_lt p n _ (by rw [List.getD_eq_getElem?_getD, List.getElem?_eq_getElem hk]; exact List.getElem_mem _), ixs_up p n, (preS_all p f n).trans e, preS_bd (ixs_lt p n) hf⟩))
  have CNN := fun fb xb W g gc (h : ZRow W (some ⟨g, 0, none⟩) (allS f n)) hF => Lib.hid (noNear_any (some ⟨g, 0, none⟩) gc (allS f n) fb xb W h (by omega) hF)
  rw [hg] at CG
  generalize allS f n = al at *
  generalize 2 ^ n = M at *
  generalize totS f n = T at *
  generalize hN : al.length = N at *
  have HN := Lib.hid hN
  have ne0 : ((N : Int) == 0) = false := by simp; omega
  have ne1 : (N == 0) = false := by simp; omega
  have ne2 : ¬ N = 0 := by omega
  clear hN
  have m1 : decide (10 < (n : Int)) = false := decide_eq_false (by omega)
  have m2 : decide (sum < -1152921504606846976) = false := decide_eq_false hs1
  have m3 : decide (1152921504606846976 < sum) = false := decide_eq_false (by omega)
  have m4 : ¬ (10 : Int) < (n : Int) := by omega
  have m5 : ¬ (1152921504606846976 : Int) < sum := by omega
  clear hf hg hok hlong H0 HFM
  go_enter Tryd.func6, Tryd.ntmps6
  go_upto_region 1 with fail
  rw [← hsb, ← hw1]
  clear hsb hw1
  go_upto_region 8 with (first
    | (go_at_call 9; (with_reducible refine ((CA.out).mono ?_)); rintro e w2 ⟨rfl, hb2⟩; have q2 := HX.out _ hb2)
    | (go_at_call 13; (with_reducible refine (((CG _ hb2).out).mono ?_)); rintro e w5 ⟨rfl, rfl⟩)
    | (go_at_call 11; (with_reducible refine (((C1 _ hb2).out).mono ?_)); rintro e w3 ⟨hb3, g, rfl, hrow⟩; have HB3 := Lib.hid (below_on hb2 hb3); have Z3 := Lib.hid (show ZRow w3 (some ⟨g, 0, none⟩) al from by unfold ZRow; rw [HN.out]; exact hrow.irow); clear hrow)
    | (go_at_call 29; (with_reducible refine (((CIS _ g M Z3.out).out).mono ?_)); rintro e w4 ⟨rfl, hb4⟩; have HB4 := Lib.hid (below_on HB3.out hb4); have Z4 := Lib.hid (Z3.out.on hb4))
    | (go_at_call 31; (with_reducible refine (((CCL _ g M Z4.out).out).mono ?_)); rintro e w5 ⟨pa, pc, rfl, hown, hb5⟩; obtain ⟨g5, cp5, hv5, N5⟩ := (CON _ _ _ _ hown).out; injection hv5 with v5a v5b v5c; subst v5a; subst v5c; have HN5 := Lib.hid N5; clear hown N5 v5b)
    | (go_at_call 30; (with_reducible refine (((CCO _ _ g5 _ HN5.out).out).mono ?_)); rintro e w6 ⟨rfl, ho6⟩; have hb6 := hb5.trans (ho6.below hb5.size (fun c hc => by have := HN5.out.lo; omega)); have HB6 := Lib.hid (below_on HB4.out hb6); have Z6 := Lib.hid (Z4.out.on hb6); clear ho6)
    | (go_at_call 32; (with_reducible refine (((CN0 _ g M Z6.out).out).mono ?_)); rintro e w7 ⟨rfl, rfl⟩))
  clear CN0 HN5 hb6 hb5 Z3 Z4 HB3 HB4 hb4 hb3 hb2 q2 CA CG C1 CIS CCL CCO CON
  go_upto_region 9 with (go_at_call 33; (with_reducible refine (((CT _ HB6.out).out).mono ?_)); rintro e w7 ⟨rfl, rfl⟩)
  have S0 : Hid (Below w6.heap.size w6 w6) := Below.refl _ _
  go_wp2_with fail
  go_loopg [71] N (fun g' s71 wx => ∃ i : Nat, s71 = .int .i64 i ∧ g' = N - i ∧ i ≤ N ∧ Hid (Below w6.heap.size w6 wx))
  case atStart => exact ⟨0, rfl, rfl, Nat.zero_le _, S0⟩
  case round =>
    clear S0
    obtain ⟨i, rfl, rfl, hi, S⟩ := hrel
    rename World => W1
    by_cases hlt : i < N
    · have wi : IntKind.i64.wrap ((i : Int) + 1) = ((i + 1 : Nat) : Int) := by rw [IntWalk.i64_in _ (by omega)]; omega
      have li : (i : Int) < (N : Int) := by omega
      obtain ⟨mi, hmi⟩ : ∃ mi, mi = N - 1 - i := ⟨_, rfl⟩
      have lmn : mi < N := by omega
      have wn : IntKind.i64.wrap ((N : Int) - 1) = (N : Int) - 1 := IntWalk.i64_in _ (by omega)
      have wm : IntKind.i64.wrap ((N : Int) - 1 - (i : Int)) = (mi : Int) := by rw [IntWalk.i64_in _ (by omega)]; omega
      have lm : (mi : Int) < (N : Int) := by omega
      have hsum := HPR.out i hlt
      rw [← hmi] at hsum
      have LX := Lib.hid (z_at (Z6.out.on S.out) HN.out hlt)
      have LY := Lib.hid (z_at (Z6.out.on S.out) HN.out lmn)
      have wT : IntKind.i64.wrap (nth al i + nth al mi) = T := by rw [hsum]; exact IntWalk.i64_in _ (by have := HTB.out; omega)
      generalize nth al i = x at *
      generalize nth al mi = y at *
      clear hsum hmi
      go_upto_region 12 with fail
      refine wp_region_each (fun L A W => ∃ (v : Nat → Value), A = ⟨#[_, _, _, _, _, _, _, _, _, _, _, _, _, _, _, _, _, _, _, _, _, _, _, _, _, _, _, _, _, _, _, _, _, _, _, _, _, _, _, _, _, _, _, _, _, _, _, _, _, _, _, _, _, _, _, _, _, _, _, _, _, _, _, _, _, _, _, _, _, _, _, _, _, _, v 74, v 75, v 76, v 77, v 78, v 79, v 80, v 81, v 82, v 83, v 84, v 85, v 86, v 87, v 88, _, _, _, _, _, _, _, _, _, _, _, _, _, _, _, _, _, _, _, _, _, _, _, _, _, _, _, _, _, _, _, _, _, _, _, _, _, _, _, _, _, _, _, _, _, _, _, _, _, _, _, _, _, _, _, _, _, _, _, _, _, _, _, _, _, _, _, _, _, _, _, _, _, _, _, _, _, _, _, _], []⟩ ∧ PaiR g N M i mi x y T W1 L v W) (by kernel_rfl) (by kernel_rfl) ⟨fun jz => if jz = 74 then u74 else if jz = 75 then u75 else if jz = 76 then u76 else if jz = 77 then u77 else if jz = 78 then u78 else if jz = 79 then u79 else if jz = 80 then u80 else if jz = 81 then u81 else if jz = 82 then u82 else if jz = 83 then u83 else if jz = 84 then u84 else if jz = 85 then u85 else if jz = 86 then u86 else if jz = 87 then u87 else if jz = 88 then u88 else undef, rfl, ⟨Below.drew (Below.refl _ _), Had.none, Had.none, Had.none, Had.none, Had.none, Had.none, Had.none, Had.none, Had.none, Had.none, Had.none, Had.none, Had.none, Had.none, Had.none, Had.none, Had.none, Had.none, Had.none, Had.none, Had.none, Had.none, Had.none, Had.none⟩⟩ (rs := [0, 1, 2, 3, 4, 5, 6, 7, 8, 9, 10, 11, 12, 13, 14]) (by kernel_rfl) ?_ ?_
      · refine EachOf.cons [] rfl (by kernel_rfl) ?_ ?_
        · rintro L A W ⟨v, rfl, hR⟩ hi hw K hK
          go_simp
          refine hK.out _ _ ?_
          exact ⟨(fun jz => if jz = 74 then .slice (some ⟨g, 0, none⟩) (N) (M) else v jz), rfl, ⟨hR.st, hR.w2.o, hR.w3.o, hR.w6.o, hR.w7.o, hR.w9.o, hR.w10.o, hR.w11.o, hR.w12.o, hR.w14.o, (fun _ => rfl), hR.f1.k, hR.f2.k, hR.f3.k, hR.f4.k, hR.f5.k, hR.f6.k, hR.f7.k, hR.f8.k, hR.f9.k, hR.f10.k, hR.f11.k, hR.f12.k, hR.f13.k, hR.f14.k⟩⟩
        refine EachOf.cons [] rfl (by kernel_rfl) ?_ ?_
        · rintro L A W ⟨v, rfl, hR⟩ hi hw K hK
          go_simp
          refine hK.out _ _ ?_
          exact ⟨(fun jz => if jz = 75 then .int .i64 (i : Int) else v jz), rfl, ⟨hR.st, hR.w2.o, hR.w3.o, hR.w6.o, hR.w7.o, hR.w9.o, hR.w10.o, hR.w11.o, hR.w12.o, hR.w14.o, hR.f0.k, (fun _ => rfl), hR.f2.k, hR.f3.k, hR.f4.k, hR.f5.k, hR.f6.k, hR.f7.k, hR.f8.k, hR.f9.k, hR.f10.k, hR.f11.k, hR.f12.k, hR.f13.k, hR.f14.k⟩⟩
        refine EachOf.cons [0, 1] rfl (by kernel_rfl) ?_ ?_
        · rintro L A W ⟨v, rfl, hR⟩ hi hw K hK
          have e0 := hR.f0 (hw 0 (by simp))
          have e1 := hR.f1 (hw 1 (by simp))
          simp only [e0, e1]
          clear e0 e1
          go_simp
          refine hK.out _ _ ?_
          exact ⟨(fun jz => if jz = 74 then .slice (some ⟨g, 0, none⟩) (N) (M) else if jz = 75 then .int .i64 (i : Int) else if jz = 76 then .pointer (some ⟨g, i, none⟩) else v jz), rfl, ⟨hR.st, (fun _ j hj => upd_on (hw j hj)), hR.w3.o, hR.w6.o, hR.w7.o, hR.w9.o, hR.w10.o, hR.w11.o, hR.w12.o, hR.w14.o, (fun _ => rfl), (fun _ => rfl), (fun _ => rfl), hR.f3.k, hR.f4.k, hR.f5.k, hR.f6.k, hR.f7.k, hR.f8.k, hR.f9.k, hR.f10.k, hR.f11.k, hR.f12.k, hR.f13.k, hR.f14.k⟩⟩
        refine EachOf.cons [2] rfl (by kernel_rfl) ?_ ?_
        · rintro L A W ⟨v, rfl, hR⟩ hi hw K hK
          have e2 := hR.f2 (hw 2 (by simp))
          simp only [e2]
          clear e2
          have q0 := (hR.st.cell (p := ⟨g, i, none⟩) LX.out.2).trans LX.out.1
          go_simp
          refine hK.out _ _ ?_
          exact ⟨(fun jz => if jz = 76 then .pointer (some ⟨g, i, none⟩) else if jz = 77 then .int .i64 x else v jz), rfl, ⟨hR.st, hR.w2.o, (fun _ j hj => upd_on (hw j hj)), hR.w6.o, hR.w7.o, hR.w9.o, hR.w10.o, hR.w11.o, hR.w12.o, hR.w14.o, hR.f0.k, hR.f1.k, (fun _ => rfl), (fun _ => rfl), hR.f4.k, hR.f5.k, hR.f6.k, hR.f7.k, hR.f8.k, hR.f9.k, hR.f10.k, hR.f11.k, hR.f12.k, hR.f13.k, hR.f14.k⟩⟩
        refine EachOf.cons [] rfl (by kernel_rfl) ?_ ?_
        · rintro L A W ⟨v, rfl, hR⟩ hi hw K hK
          go_simp
          refine hK.out _ _ ?_
          exact ⟨(fun jz => if jz = 78 then .slice (some ⟨g, 0, none⟩) (N) (M) else v jz), rfl, ⟨hR.st, hR.w2.o, hR.w3.o, hR.w6.o, hR.w7.o, hR.w9.o, hR.w10.o, hR.w11.o, hR.w12.o, hR.w14.o, hR.f0.k, hR.f1.k, hR.f2.k, hR.f3.k, (fun _ => rfl), hR.f5.k, hR.f6.k, hR.f7.k, hR.f8.k, hR.f9.k, hR.f10.k, hR.f11.k, hR.f12.k, hR.f13.k, hR.f14.k⟩⟩
        refine EachOf.cons [] rfl (by kernel_rfl) ?_ ?_
        · rintro L A W ⟨v, rfl, hR⟩ hi hw K hK
          go_simp
          refine hK.out _ _ ?_
          exact ⟨(fun jz => if jz = 79 then .slice (some ⟨g, 0, none⟩) (N) (M) else v jz), rfl, ⟨hR.st, hR.w2.o, hR.w3.o, hR.w6.o, hR.w7.o, hR.w9.o, hR.w10.o, hR.w11.o, hR.w12.o, hR.w14.o, hR.f0.k, hR.f1.k, hR.f2.k, hR.f3.k, hR.f4.k, (fun _ => rfl), hR.f6.k, hR.f7.k, hR.f8.k, hR.f9.k, hR.f10.k, hR.f11.k, hR.f12.k, hR.f13.k, hR.f14.k⟩⟩
        refine EachOf.cons [5] rfl (by kernel_rfl) ?_ ?_
        · rintro L A W ⟨v, rfl, hR⟩ hi hw K hK
          have e5 := hR.f5 (hw 5 (by simp))
          simp only [e5]
          clear e5
          go_simp
          refine hK.out _ _ ?_
          exact ⟨(fun jz => if jz = 79 then .slice (some ⟨g, 0, none⟩) (N) (M) else if jz = 80 then .int .i64 (N : Int) else v jz), rfl, ⟨hR.st, hR.w2.o, hR.w3.o, (fun _ j hj => upd_on (hw j hj)), hR.w7.o, hR.w9.o, hR.w10.o, hR.w11.o, hR.w12.o, hR.w14.o, hR.f0.k, hR.f1.k, hR.f2.k, hR.f3.k, hR.f4.k, (fun _ => rfl), (fun _ => rfl), hR.f7.k, hR.f8.k, hR.f9.k, hR.f10.k, hR.f11.k, hR.f12.k, hR.f13.k, hR.f14.k⟩⟩
        refine EachOf.cons [6] rfl (by kernel_rfl) ?_ ?_
        · rintro L A W ⟨v, rfl, hR⟩ hi hw K hK
          have e6 := hR.f6 (hw 6 (by simp))
          simp only [e6]
          clear e6
          go_simp
          refine hK.out _ _ ?_
          exact ⟨(fun jz => if jz = 80 then .int .i64 (N : Int) else if jz = 81 then .int .i64 ((N : Int) - 1) else v jz), rfl, ⟨hR.st, hR.w2.o, hR.w3.o, hR.w6.o, (fun _ j hj => upd_on (hw j hj)), hR.w9.o, hR.w10.o, hR.w11.o, hR.w12.o, hR.w14.o, hR.f0.k, hR.f1.k, hR.f2.k, hR.f3.k, hR.f4.k, hR.f5.k, (fun _ => rfl), (fun _ => rfl), hR.f8.k, hR.f9.k, hR.f10.k, hR.f11.k, hR.f12.k, hR.f13.k, hR.f14.k⟩⟩
        refine EachOf.cons [] rfl (by kernel_rfl) ?_ ?_
        · rintro L A W ⟨v, rfl, hR⟩ hi hw K hK
          go_simp
          refine hK.out _ _ ?_
          exact ⟨(fun jz => if jz = 82 then .int .i64 (i : Int) else v jz), rfl, ⟨hR.st, hR.w2.o, hR.w3.o, hR.w6.o, hR.w7.o, hR.w9.o, hR.w10.o, hR.w11.o, hR.w12.o, hR.w14.o, hR.f0.k, hR.f1.k, hR.f2.k, hR.f3.k, hR.f4.k, hR.f5.k, hR.f6.k, hR.f7.k, (fun _ => rfl), hR.f9.k, hR.f10.k, hR.f11.k, hR.f12.k, hR.f13.k, hR.f14.k⟩⟩
        refine EachOf.cons [7, 8] rfl (by kernel_rfl) ?_ ?_
        · rintro L A W ⟨v, rfl, hR⟩ hi hw K hK
          have e7 := hR.f7 (hw 7 (by simp))
          have e8 := hR.f8 (hw 8 (by simp))
          simp only [e7, e8]
          clear e7 e8
          go_simp
          refine hK.out _ _ ?_
          exact ⟨(fun jz => if jz = 81 then .int .i64 ((N : Int) - 1) else if jz = 82 then .int .i64 (i : Int) else if jz = 83 then .int .i64 (mi : Int) else v jz), rfl, ⟨hR.st, hR.w2.o, hR.w3.o, hR.w6.o, hR.w7.o, (fun _ j hj => upd_on (hw j hj)), hR.w10.o, hR.w11.o, hR.w12.o, hR.w14.o, hR.f0.k, hR.f1.k, hR.f2.k, hR.f3.k, hR.f4.k, hR.f5.k, hR.f6.k, (fun _ => rfl), (fun _ => rfl), (fun _ => rfl), hR.f10.k, hR.f11.k, hR.f12.k, hR.f13.k, hR.f14.k⟩⟩
        refine EachOf.cons [4, 9] rfl (by kernel_rfl) ?_ ?_
        · rintro L A W ⟨v, rfl, hR⟩ hi hw K hK
          have e4 := hR.f4 (hw 4 (by simp))
          have e9 := hR.f9 (hw 9 (by simp))
          simp only [e4, e9]
          clear e4 e9
          go_simp
          refine hK.out _ _ ?_
          exact ⟨(fun jz => if jz = 78 then .slice (some ⟨g, 0, none⟩) (N) (M) else if jz = 83 then .int .i64 (mi : Int) else if jz = 84 then .pointer (some ⟨g, mi, none⟩) else v jz), rfl, ⟨hR.st, hR.w2.o, hR.w3.o, hR.w6.o, hR.w7.o, hR.w9.o, (fun _ j hj => upd_on (hw j hj)), hR.w11.o, hR.w12.o, hR.w14.o, hR.f0.k, hR.f1.k, hR.f2.k, hR.f3.k, (fun _ => rfl), hR.f5.k, hR.f6.k, hR.f7.k, hR.f8.k, (fun _ => rfl), (fun _ => rfl), hR.f11.k, hR.f12.k, hR.f13.k, hR.f14.k⟩⟩
        refine EachOf.cons [10] rfl (by kernel_rfl) ?_ ?_
        · rintro L A W ⟨v, rfl, hR⟩ hi hw K hK
          have e10 := hR.f10 (hw 10 (by simp))
          simp only [e10]
          clear e10
          have q0 := (hR.st.cell (p := ⟨g, mi, none⟩) LY.out.2).trans LY.out.1
          go_simp
          refine hK.out _ _ ?_
          exact ⟨(fun jz => if jz = 84 then .pointer (some ⟨g, mi, none⟩) else if jz = 85 then .int .i64 y else v jz), rfl, ⟨hR.st, hR.w2.o, hR.w3.o, hR.w6.o, hR.w7.o, hR.w9.o, hR.w10.o, (fun _ j hj => upd_on (hw j hj)), hR.w12.o, hR.w14.o, hR.f0.k, hR.f1.k, hR.f2.k, hR.f3.k, hR.f4.k, hR.f5.k, hR.f6.k, hR.f7.k, hR.f8.k, hR.f9.k, (fun _ => rfl), (fun _ => rfl), hR.f12.k, hR.f13.k, hR.f14.k⟩⟩
        refine EachOf.cons [3, 11] rfl (by kernel_rfl) ?_ ?_
        · rintro L A W ⟨v, rfl, hR⟩ hi hw K hK
          have e3 := hR.f3 (hw 3 (by simp))
          have e11 := hR.f11 (hw 11 (by simp))
          simp only [e3, e11]
          clear e3 e11
          go_simp
          refine hK.out _ _ ?_
          exact ⟨(fun jz => if jz = 77 then .int .i64 x else if jz = 85 then .int .i64 y else if jz = 86 then .int .i64 T else v jz), rfl, ⟨hR.st, hR.w2.o, hR.w3.o, hR.w6.o, hR.w7.o, hR.w9.o, hR.w10.o, hR.w11.o, (fun _ j hj => upd_on (hw j hj)), hR.w14.o, hR.f0.k, hR.f1.k, hR.f2.k, (fun _ => rfl), hR.f4.k, hR.f5.k, hR.f6.k, hR.f7.k, hR.f8.k, hR.f9.k, hR.f10.k, (fun _ => rfl), (fun _ => rfl), hR.f13.k, hR.f14.k⟩⟩
        refine EachOf.cons [] rfl (by kernel_rfl) ?_ ?_
        · rintro L A W ⟨v, rfl, hR⟩ hi hw K hK
          go_simp
          refine hK.out _ _ ?_
          exact ⟨(fun jz => if jz = 87 then .int .i64 T else v jz), rfl, ⟨hR.st, hR.w2.o, hR.w3.o, hR.w6.o, hR.w7.o, hR.w9.o, hR.w10.o, hR.w11.o, hR.w12.o, hR.w14.o, hR.f0.k, hR.f1.k, hR.f2.k, hR.f3.k, hR.f4.k, hR.f5.k, hR.f6.k, hR.f7.k, hR.f8.k, hR.f9.k, hR.f10.k, hR.f11.k, hR.f12.k, (fun _ => rfl), hR.f14.k⟩⟩
        refine EachOf.cons [12, 13] rfl (by kernel_rfl) ?_ ?_
        · rintro L A W ⟨v, rfl, hR⟩ hi hw K hK
          have e12 := hR.f12 (hw 12 (by simp))
          have e13 := hR.f13 (hw 13 (by simp))
          simp only [e12, e13]
          clear e12 e13
          go_simp
          refine hK.out _ _ ?_
          exact ⟨(fun jz => if jz = 86 then .int .i64 T else if jz = 87 then .int .i64 T else if jz = 88 then .bool false else v jz), rfl, ⟨hR.st, hR.w2.o, hR.w3.o, hR.w6.o, hR.w7.o, hR.w9.o, hR.w10.o, hR.w11.o, hR.w12.o, (fun _ j hj => upd_on (hw j hj)), hR.f0.k, hR.f1.k, hR.f2.k, hR.f3.k, hR.f4.k, hR.f5.k, hR.f6.k, hR.f7.k, hR.f8.k, hR.f9.k, hR.f10.k, hR.f11.k, (fun _ => rfl), (fun _ => rfl), (fun _ => rfl)⟩⟩
        exact EachOf.nil
      · rintro L A W ⟨v, rfl, hR⟩ hall
        have hst := Lib.hid (below_on S.out hR.st)
        have e14 := hR.f14 (hall 14 (by simp))
        simp only [e14]
        clear hR e14 hall S LX LY
        go_wp2_with fail
        go_roundg (N - (i + 1))
        case measure => omega
        case rel => exact ⟨i + 1, rfl, rfl, by omega, hst⟩
    · have li : ¬ (i : Int) < (N : Int) := by omega
      have HB7 := Lib.hid (below_on HB6.out S.out)
      have Z7 := Lib.hid (Z6.out.on S.out)
      have q7 := HX.out _ HB7.out
      clear S HB6 Z6 HPR hlt hi
      go_upto_region 16 with (go_at_call 19; (with_reducible refine (((CF _ HB7.out).out).mono ?_)); rintro e w8 ⟨hb8, v1, e1, rfl, hsr⟩)
      have HB8 := Lib.hid (below_on HB7.out hb8)
      have Z8 := Lib.hid (Z7.out.on hb8)
      have q8 := HX.out _ HB8.out
      clear hb8 HB7 Z7 CF q7
      rcases hsr with ⟨rfl, rfl, hno⟩ | ⟨rfl, l, la, lc, rfl, hF, hl, hown⟩
      · have hnm : decide (sum ∈ al) = false := decide_eq_false (HNF.out hno)
        have CS := CN sum _ g M Z8.out
        rw [hnm] at CS
        clear hno HNF HPS
        go_upto_region 30 with (first
          | (go_at_call 32; (with_reducible refine ((CS.out).mono ?_)); rintro e w9 ⟨rfl, rfl⟩)
          | (go_at_call 12; (with_reducible refine (((CNr _ HB8.out).out).mono ?_)); rintro e w10 ⟨hb10, m, l2, ma, mc, rfl, hM, hF2, hl2, hown2⟩))
        obtain ⟨w11, hw11⟩ : ∃ W, W = w10.alloc (Obj.cells #[.int .i64 m] 3) := ⟨_, rfl⟩
        obtain ⟨xb, hxb⟩ : ∃ x, x = w10.heap.size := ⟨_, rfl⟩
        have hb11 : Below w10.heap.size w10 w11 := by rw [hw11]; exact ab _ _
        have hb811 := below_on hb10 hb11
        have HB11 := Lib.hid (below_on HB8.out hb811)
        have Z11 := Lib.hid (Z8.out.on hb811)
        have X11 := Lib.hid (show w11.cell? ⟨xb, 0, none⟩ = some (.int .i64 m) ∧ xb < w11.heap.size from ⟨by rw [hw11, hxb]; simp, by rw [hw11, hxb]; simp⟩)
        rw [← hxb, ← hw11]
        have p11 := X11.out.1
        have s11 := HX.out _ HB11.out
        have HMM := Lib.hid (HNM.out m hM)
        have CM := CN m _ g M Z11.out
        rw [decide_eq_true HMM.out.1] at CM
        have hl2n : ¬ (l2.length : Int) > (n : Int) := by omega
        clear hw11 hxb hb10 hb11 hb811 hM hF2 hown2 CNr
        go_upto_region 33 with (go_at_call 32; (with_reducible refine ((CM.out).mono ?_)); rintro e w12 ⟨rfl, rfl⟩)
        obtain ⟨w12, hw12⟩ : ∃ W, W = w11.alloc (Obj.cells #[.func (.func 34) #[] #[.pointer (some ⟨sb, 0, none⟩)]] 49) := ⟨_, rfl⟩
        obtain ⟨fb, hfb⟩ : ∃ x, x = w11.heap.size := ⟨_, rfl⟩
        have hb12 : Below w11.heap.size w11 w12 := by rw [hw12]; exact ab _ _
        have HB12 := Lib.hid (below_on HB11.out hb12)
        have Z12 := Lib.hid (Z11.out.on hb12)
        have F12 := Lib.hid (show w12.cell? ⟨fb, 0, none⟩ = some (.func (.func 34) #[] #[.pointer (some ⟨sb, 0, none⟩)]) ∧ fb < w12.heap.size from ⟨by rw [hw12, hfb]; simp, by rw [hw12, hfb]; simp⟩)
        have X12 := Lib.hid (show w12.cell? ⟨xb, 0, none⟩ = some (.int .i64 m) ∧ xb < w12.heap.size from ⟨(hb12.cell (p := ⟨xb, 0, none⟩) X11.out.2).trans X11.out.1, Nat.lt_of_lt_of_le X11.out.2 hb12.size⟩)
        rw [← hfb, ← hw12]
        have HSB := Lib.hid (fun W (h : Below w12.heap.size w12 W) => (show W.cell? ⟨sb, 0, none⟩ = some (.int .i64 sum) ∧ sb < W.heap.size from ⟨HX.out W (below_on HB12.out h), Nat.lt_of_lt_of_le HXL.out (below_on HB12.out h).size⟩))
        have K := Lib.hid ((CNN fb xb w12 g M Z12.out (fun W h j hj => near2_any fb xb sb sum m (nth al j) W (HSB.out W h) ⟨(h.cell (p := ⟨xb, 0, none⟩) X12.out.2).trans X12.out.1, Nat.lt_of_lt_of_le X12.out.2 h.size⟩ ⟨(h.cell (p := ⟨fb, 0, none⟩) F12.out.2).trans F12.out.1, Nat.lt_of_lt_of_le F12.out.2 h.size⟩ ⟨by omega, by omega⟩ HMM.out.2.1 (HABD.out j hj) (HMM.out.2.2 j hj))).out)
        clear hw12 hfb hb12 p11 s11 CM CNN CN HSB F12 X12 X11 HNM HABD
        go_wp2_with (go_at_call 35; (with_reducible refine ((K.out).mono ?_)); rintro e w13 ⟨rfl, hb13⟩)
        go_ret
        exact ⟨rfl, below_on HB.out (below_on HB12.out hb13)⟩
      · have HP := Lib.hid (HPS.out l hF.1)
        have hnm : decide (sum ∈ al) = true := decide_eq_true HP.out.1
        have CS := CN sum _ g M Z8.out
        rw [hnm] at CS
        have I8 := Lib.hid (own_idx hown)
        have R8 := Lib.hid (HR.out.on HB8.out)
        clear hF hown HNF HPS hnm
        go_upto_region 19 with (go_at_call 32; (with_reducible refine ((CS.out).mono ?_)); rintro e w9 ⟨rfl, rfl⟩)
        clear CS
        go_wp2_with fail
        go_loopg [106, 11] l.length (fun g' s106 s11 wx => ∃ j : Nat, s106 = .int .i64 j ∧ s11 = .int .i64 (preS f l j) ∧ g' = l.length - j ∧ j ≤ l.length ∧ wx = w8)
        case atStart => exact ⟨0, rfl, rfl, rfl, Nat.zero_le _, rfl⟩
        case round =>
          obtain ⟨j, rfl, rfl, rfl, hj, rfl⟩ := hrel
          rename World => W2
          by_cases hjl : j < l.length
          · have wj : IntKind.i64.wrap ((j : Int) + 1) = ((j + 1 : Nat) : Int) := by rw [IntWalk.i64_in _ (by omega)]; omega
            have lj : (j : Int) < (l.length : Int) := by omega
            obtain ⟨k, hk⟩ : ∃ k, l.getD j 0 = k := ⟨_, rfl⟩
            have hkn : k < n := by rw [← hk]; exact HP.out.2.1 j hjl
            have k0 : decide ((k : Int) < 0) = false := decide_eq_false (by omega)
            have k1 : ¬ (k : Int) ≥ (n : Int) := by omega
            have k2 : (k : Int) < (n : Int) := by omega
            obtain ⟨lg, lo, rfl, p1⟩ := ids_at I8.out hjl
            obtain ⟨rg, ro, rfl, _, hrc⟩ := R8.out (by omega)
            have p2 := hrc k hkn
            rw [hk] at p1
            have ws : IntKind.i64.wrap (preS f l j + f k) = preS f l (j + 1) := by
              rw [← hk, ← preS_succ hjl]
              have := HP.out.2.2.2.2 (j + 1) (by omega)
              exact IntWalk.i64_in _ (by omega)
            generalize f k = y at *
            generalize preS f l j = u at *
            generalize hu2 : preS f l (j + 1) = u2 at *
            by_cases hj0 : j = 0
            · have jp : ¬ (j : Int) > 0 := by omega
              clear hj0 hk hkn hrc
              go_wp2_with fail
              go_roundg (l.length - (j + 1))
              case measure => omega
              case rel => exact ⟨j + 1, rfl, by rw [hu2], rfl, by omega, rfl⟩
            · have jp : (j : Int) > 0 := by omega
              obtain ⟨jm, hjm⟩ : ∃ jm, jm + 1 = j := ⟨j - 1, by omega⟩
              have wjm : IntKind.i64.wrap ((j : Int) - 1) = (jm : Int) := by rw [IntWalk.i64_in _ (by omega)]; omega
              have ljm : (jm : Int) < (l.length : Int) := by omega
              obtain ⟨lg', lo', el, p3⟩ := ids_at I8.out (show jm < l.length by omega)
              injection el with el
              injection el with el1 el2
              subst el1; subst el2
              obtain ⟨k', hk'⟩ : ∃ k', l.getD jm 0 = k' := ⟨_, rfl⟩
              have hkk : k' < k := by
                rw [← hk, ← hk', ← hjm]; exact HP.out.2.2.1 jm (by omega)
              rw [hk'] at p3
              have k3 : ¬ (k : Int) ≤ (k' : Int) := by omega
              clear hj0 hk hkn hrc hk' hkk hjm
              go_wp2_with fail
              go_roundg (l.length - (j + 1))
              case measure => omega
              case rel => exact ⟨j + 1, rfl, by rw [hu2], rfl, by omega, rfl⟩
          · have lj : ¬ (j : Int) < (l.length : Int) := by omega
            have ej : j = l.length := by omega
            have epre : preS f l j = sum := by rw [ej]; exact HP.out.2.2.2.1
            rw [epre]
            clear epre ej R8 hjl hj HP
            go_upto_region 30 with (first
              | (go_at_call 32; (with_reducible refine ((CS.out).mono ?_)); rintro e w9 ⟨rfl, rfl⟩)
              | (go_at_call 12; (with_reducible refine (((CNr _ HB8.out).out).mono ?_)); rintro e w10 ⟨hb10, m, l2, ma, mc, rfl, hM, hF2, hl2, hown2⟩))
            obtain ⟨w11, hw11⟩ : ∃ W, W = w10.alloc (Obj.cells #[.int .i64 m] 3) := ⟨_, rfl⟩
            obtain ⟨xb, hxb⟩ : ∃ x, x = w10.heap.size := ⟨_, rfl⟩
            have hb11 : Below w10.heap.size w10 w11 := by rw [hw11]; exact ab _ _
            have hb811 := below_on hb10 hb11
            have HB11 := Lib.hid (below_on HB8.out hb811)
            have Z11 := Lib.hid (Z8.out.on hb811)
            have X11 := Lib.hid (show w11.cell? ⟨xb, 0, none⟩ = some (.int .i64 m) ∧ xb < w11.heap.size from ⟨by rw [hw11, hxb]; simp, by rw [hw11, hxb]; simp⟩)
            rw [← hxb, ← hw11]
            have p11 := X11.out.1
            have s11 := HX.out _ HB11.out
            have HMM := Lib.hid (HNM.out m hM)
            have CM := CN m _ g M Z11.out
            rw [decide_eq_true HMM.out.1] at CM
            have hl2n : ¬ (l2.length : Int) > (n : Int) := by omega
            clear hw11 hxb hb10 hb11 hb811 hM hF2 hown2 CNr
            go_upto_region 33 with (go_at_call 32; (with_reducible refine ((CM.out).mono ?_)); rintro e w12 ⟨rfl, rfl⟩)
            obtain ⟨w12, hw12⟩ : ∃ W, W = w11.alloc (Obj.cells #[.func (.func 34) #[] #[.pointer (some ⟨sb, 0, none⟩)]] 49) := ⟨_, rfl⟩
            obtain ⟨fb, hfb⟩ : ∃ x, x = w11.heap.size := ⟨_, rfl⟩
            have hb12 : Below w11.heap.size w11 w12 := by rw [hw12]; exact ab _ _
            have HB12 := Lib.hid (below_on HB11.out hb12)
            have Z12 := Lib.hid (Z11.out.on hb12)
            have F12 := Lib.hid (show w12.cell? ⟨fb, 0, none⟩ = some (.func (.func 34) #[] #[.pointer (some ⟨sb, 0, none⟩)]) ∧ fb < w12.heap.size from ⟨by rw [hw12, hfb]; simp, by rw [hw12, hfb]; simp⟩)
            have X12 := Lib.hid (show w12.cell? ⟨xb, 0, none⟩ = some (.int .i64 m) ∧ xb < w12.heap.size from ⟨(hb12.cell (p := ⟨xb, 0, none⟩) X11.out.2).trans X11.out.1, Nat.lt_of_lt_of_le X11.out.2 hb12.size⟩)
            rw [← hfb, ← hw12]
            have HSB := Lib.hid (fun W (h : Below w12.heap.size w12 W) => (show W.cell? ⟨sb, 0, none⟩ = some (.int .i64 sum) ∧ sb < W.heap.size from ⟨HX.out W (below_on HB12.out h), Nat.lt_of_lt_of_le HXL.out (below_on HB12.out h).size⟩))
            have K := Lib.hid ((CNN fb xb w12 g M Z12.out (fun W h j hj => near2_any fb xb sb sum m (nth al j) W (HSB.out W h) ⟨(h.cell (p := ⟨xb, 0, none⟩) X12.out.2).trans X12.out.1, Nat.lt_of_lt_of_le X12.out.2 h.size⟩ ⟨(h.cell (p := ⟨fb, 0, none⟩) F12.out.2).trans F12.out.1, Nat.lt_of_lt_of_le F12.out.2 h.size⟩ ⟨by omega, by omega⟩ HMM.out.2.1 (HABD.out j hj) (HMM.out.2.2 j hj))).out)
            clear hw12 hfb hb12 p11 s11 CM CNN CN HSB F12 X12 X11 HNM HABD
            go_wp2_with (go_at_call 35; (with_reducible refine ((K.out).mono ?_)); rintro e w13 ⟨rfl, hb13⟩)
            go_ret
            exact ⟨rfl, below_on HB.out (below_on HB12.out hb13)⟩
theorem pairs_at (ra : Option Addr) (n c : Nat) (f : Nat → Int) (sum : Int) (w : World) (hd : DB w) (hr : IRow w ra n f) (hn : n ≤ 9223372036854775807) :
    Calls Tryd.prog 6 #[.slice ra n c, .int .i64 sum] w fun e w' => e = .returned (.bool true) ∧ Below w.heap.size w w' :=
  lawPairs_any ra n c f sum w hr hd hn
end Go.Proofs.YtlgpckjhnohhhaaDoor
