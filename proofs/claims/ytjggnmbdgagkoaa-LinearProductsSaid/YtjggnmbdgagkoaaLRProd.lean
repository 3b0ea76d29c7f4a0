/- Layer 4: the reference's Product. -/
import Derived.Test.YtjggnmbdgagkoaaLProduct
import Derived.Test.YtjggnmbdgagkoaaRRef11
import Derived.Test.YtjggnmbdgagkoaaRRef14
import Derived.Test.YtjggnmbdgagkoaaLExam
namespace Go.Proofs.Ytjggnmbdgagkoaa
set_option linter.unusedVariables false
open Go.RowKit Go.Shelf

theorem refTim_any (an ad bn bd : Int) (w : World) (va : Vld an ad) (vb : Vld bn bd) (n d er : Int) (h : mulT an ad bn bd = (n, d, er)) :
    Calls Try.prog 58 #[.agg #[.int .i64 an, .int .i64 ad], .agg #[.int .i64 bn, .int .i64 bd]] w fun e w' => e = .returned (.tuple #[.agg #[.int .i64 n, .int .i64 d], .int .i64 er]) ∧ Below w.heap.size w w' := by
  rw [mul_made va vb] at h
  have b1 : (an.natAbs : Int) * (bn.natAbs : Int) ≤ 1152921504606846976 * 1152921504606846976 := Int.mul_le_mul (by have := va.n1; have := va.n2; omega) (by have := vb.n1; have := vb.n2; omega) (by omega) (by omega)
  have b2 : (ad.natAbs : Int) * (bd.natAbs : Int) ≤ 1152921504606846976 * 1152921504606846976 := Int.mul_le_mul (by have := va.d1; have := va.d2; omega) (by have := vb.d1; have := vb.d2; omega) (by omega) (by omega)
  have c1 : 0 ≤ (an.natAbs : Int) * (bn.natAbs : Int) := Int.mul_nonneg (by omega) (by omega)
  have c2 : 0 ≤ (ad.natAbs : Int) * (bd.natAbs : Int) := Int.mul_nonneg (by omega) (by omega)
  exact refTimes_any an ad bn bd w va.n1 va.n2 va.d1 va.d2 vb.n1 vb.n2 vb.d1 vb.d2 _ _ n d er rfl rfl c1 (by omega) c2 (by omega) h

def celF (F : Nat → Int × Int) (i : Nat) : List Value := (List.range i).flatMap fun l => [.int .i64 (F l).1, .int .i64 (F l).2]
theorem celF_succ (F : Nat → Int × Int) (i : Nat) : celF F (i + 1) = celF F i ++ [.int .i64 (F i).1, .int .i64 (F i).2] := by
  unfold celF
  rw [List.range_succ, List.flatMap_append]
  simp
theorem celF_len (F : Nat → Int × Int) (i : Nat) : (celF F i).length = i * 2 := by
  induction i with
  | zero => rfl
  | succ i ih => rw [celF_succ, List.length_append, ih]; simp; omega
theorem celF_get (F : Nat → Int × Int) : ∀ i l, l < i → (celF F i)[l * 2]? = some (.int .i64 (F l).1) ∧ (celF F i)[l * 2 + 1]? = some (.int .i64 (F l).2) := by
  intro i
  induction i with
  | zero => intro l h; omega
  | succ i ih =>
    intro l h
    rw [celF_succ]
    by_cases e : l = i
    · subst e
      have hl := celF_len F l
      rw [List.getElem?_append_right (by omega), List.getElem?_append_right (by omega), hl]
      simp
    · have hl := celF_len F i
      rw [List.getElem?_append_left (by omega), List.getElem?_append_left (by omega)]
      exact ih l (by omega)
theorem celF_own {W : World} {B i : Nat} {t : TypeId} {v : Value} {F : Nat → Int × Int} (h : W.ownsRow B t 2 v i (celF F i)) : ∃ ao cp, v = .slice ao i cp ∧ IFr W ao i F := by
  rcases h.2 with ⟨h1, h2⟩ | ⟨g, cap, cur, hv, _, hg, _⟩
  · exact ⟨none, 0, by rw [h1, h2], fun h => by omega⟩
  · refine ⟨_, cap, hv, fun _ => ⟨g, 0, rfl, (Array.getElem?_eq_some_iff.1 hg).1, fun j hj => ?_⟩⟩
    have hc := h.cells (g := g) (by rw [hv]; rfl)
    have e : ∀ x, (⟨g, 0, none⟩ : Addr).add x = ⟨g, x, none⟩ := fun x => by unfold Addr.add; split <;> simp_all
    have c0 := hc (j * 2) _ (celF_get F i j hj).1
    have c1 := hc (j * 2 + 1) _ (celF_get F i j hj).2
    rw [e] at c0 c1
    simp only [Nat.zero_add]
    exact ⟨c0, c1⟩

theorem two_news {W : World} {B : Nat} {x y : Value} (h : Row W B [x, y]) : ∀ j u, [x, y][j]? = some u → W.cell? ((⟨B, 0, none⟩ : Addr).add j) = some u := fun j u hu => by
  have e : (⟨B, 0, none⟩ : Addr).add j = ⟨B, j, none⟩ := by unfold Addr.add; split <;> simp_all
  rw [e]
  match j, hu with
  | 0, hu => simp at hu; subst hu; exact h.2 0 (by simp)
  | 1, hu => simp at hu; subst hu; exact h.2 1 (by simp)
  | (n + 2), hu => simp at hu

/-- What the reference's Product returns. -/
def RPrP (R n nx : Nat) (Z : Nat → Nat → Int) (X : Nat → Int × Int) (w w' : World) (e : Ending) : Prop :=
  (nx ≠ n ∧ e = .returned (.tuple #[.slice none 0 0, .int .i64 3])) ∨
  (nx = n ∧ ((∃ i, i < R ∧ (∀ l, l < i → (comS (Z l) X n).2.2 = 0) ∧ (comS (Z i) X n).2.2 ≠ 0 ∧ e = .returned (.tuple #[.slice none 0 0, .int .i64 (comS (Z i) X n).2.2])) ∨
    ((∀ l, l < R → (comS (Z l) X n).2.2 = 0) ∧ ∃ v, e = .returned (.tuple #[v, .int .i64 0]) ∧ w'.ownsRow w.heap.size 45 2 v R (celF (fun l => ((comS (Z l) X n).1, (comS (Z l) X n).2.1)) R))))

structure RSt (w W : World) (sb : Nat) (x y : Int) : Prop where
  s : Blk W sb (.int .i64 x) (.int .i64 y)
  sf : Frz W sb
  b : Below w.heap.size w W
  ls : w.heap.size ≤ sb
theorem RSt.on {w W W2 : World} {sb : Nat} {x y : Int} (h : RSt w W sb x y) (hb : Below W.heap.size W W2) : RSt w W2 sb x y := ⟨h.s.on hb, h.sf.on h.s.1 hb, below_on h.b hb, h.ls⟩
theorem RSt.set {w W : World} {sb : Nat} {x y : Int} (h : RSt w W sb x y) (u v : Int) : RSt w ((W.setCell ⟨sb, 0, none⟩ (.int .i64 u)).setCell ⟨sb, 1, none⟩ (.int .i64 v)) sb u v := ⟨h.s.set, h.sf.set, (h.b.setCell h.ls _).setCell h.ls _, h.ls⟩

structure RPdR (mb mo R mc rg ro rc xg xo xc nx i k : Nat) (fm xn xd qn qd qe : Int) (Wc : World) (L : Nat → Bool) (v : Nat → Value) (g : Nat → Nat) (W : World) : Prop where
  st : Below Wc.heap.size Wc W
  f0 : Had L 0 (v 35 = .slice (some ⟨mb, mo, none⟩) R mc)
  f1 : Had L 1 (v 36 = .int .i64 (i : Int))
  f2 : Had L 2 (v 37 = .pointer (some ⟨mb, mo + i, none⟩))
  f3 : Had L 3 (v 38 = .slice (some ⟨rg, ro, none⟩) nx rc)
  f4 : Had L 4 (v 39 = .int .i64 (k : Int))
  f5 : Had L 5 (v 40 = .pointer (some ⟨rg, ro + k, none⟩))
  f6 : Had L 6 (v 41 = .int .i64 fm)
  f7 : Had L 7 (v 42 = .agg #[.int .i64 fm, .int .i64 1])
  f8 : Had L 8 (v 43 = .slice (some ⟨xg, xo, none⟩) nx xc)
  f9 : Had L 9 (v 44 = .int .i64 (k : Int))
  f10 : Had L 10 (v 45 = .pointer (some ⟨xg, xo + k * 2, none⟩))
  f11 : Had L 11 (v 46 = .agg #[.int .i64 xn, .int .i64 xd])
  f12 : Had L 12 (v 47 = .tuple #[.agg #[.int .i64 qn, .int .i64 qd], .int .i64 qe])
  f13 : Had L 13 (v 34 = .tuple #[.agg #[.int .i64 qn, .int .i64 qd], .int .i64 qe])
  f14 : Had L 14 (v 48 = .agg #[.int .i64 qn, .int .i64 qd])
  f15 : Had L 15 (v 49 = .int .i64 qe)
  f16 : Had L 16 (v 10 = .pointer (some ⟨g 16, 0, none⟩))
  f18 : Had L 18 (v 11 = .int .i64 qe)
  b16 : Had L 16 (Own Wc.heap.size W (g 16))
  c17 : Had L 17 (L 16 = true ∧ Blk W (g 16) (.int .i64 qn) (.int .i64 qd))

set_option maxRecDepth 100000 in
set_option maxHeartbeats 16000000 in
theorem refProd_ok (mb mo R mc n nx xc : Nat) (Ga Oa Ka : Nat → Nat) (Z : Nat → Nat → Int) (xa : Option Addr) (X : Nat → Int × Int) (w : World) (hM : Mat w mb mo R n Ga Oa Ka Z) (hR0 : 0 < R) (hR6 : R ≤ 6) (hn0 : 0 < n) (hn12 : n ≤ 12) (hZ : ∀ i, i < R → ∀ j, j < n → -32 ≤ Z i j ∧ Z i j ≤ 32)
    (hx : IFr w xa nx X) (hv : ∀ k, k < nx → Vld (X k).1 (X k).2) (hnx : nx ≤ 20) :
    Calls Try.prog 30 #[.slice (some ⟨mb, mo, none⟩) R mc, .slice xa nx xc] w fun e w' => Below w.heap.size w w' ∧ RPrP R n nx Z X w w' e := by
  have HM := Lib.hid hM
  have HX := Lib.hid hx
  have HV := Lib.hid hv
  have HZ := Lib.hid hZ
  have p0 := hM.top 0 hR0
  rw [Nat.add_zero] at p0
  clear hM hx hv hZ
  obtain ⟨i0, hi0, hz0, hz1, hz2⟩ := info_parts (show (Try.prog.info? 45).map (fun i => (i.zero, i.size, i.bytes)) = some (some (Value.agg #[Value.int IntKind.i64 0, Value.int IntKind.i64 0]), 2, 16) by kernel_rfl)
  by_cases hne : nx = n
  · subst hne
    go_enter Try.func30, Try.ntmps30
    go_wp2_with fail
    clear p0
    have S0 : Hid (w.ownsRow w.heap.size 45 2 (.slice none 0 0) 0 (celF (fun l => ((comS (Z l) X nx).1, (comS (Z l) X nx).2.1)) 0) ∧ Below w.heap.size w w ∧ ∀ l, l < 0 → (comS (Z l) X nx).2.2 = 0) := ⟨World.ownsRow_nil _ _ _ _, Below.refl _ _, fun l h => by omega⟩
    go_loopg [7, 6] R (fun g s7 s6 wx => ∃ i : Nat, s7 = .int .i64 i ∧ g = R - i ∧ i ≤ R ∧ Hid (wx.ownsRow w.heap.size 45 2 s6 i (celF (fun l => ((comS (Z l) X nx).1, (comS (Z l) X nx).2.1)) i) ∧ Below w.heap.size w wx ∧ ∀ l, l < i → (comS (Z l) X nx).2.2 = 0))
    case atStart => exact ⟨0, rfl, rfl, Nat.zero_le _, S0⟩
    case round =>
      clear S0
      obtain ⟨i, rfl, rfl, hi, S⟩ := hrel
      rename World => W1
      by_cases hlt : i < R
      · have wk : IntKind.i64.wrap ((i : Int) + 1) = ((i + 1 : Nat) : Int) := by rw [IntWalk.i64_in _ (by omega)]; omega
        have CO0 := fun w => Lib.hid (refOf_any 0 w)
        obtain ⟨oa, oc, hov⟩ := own_form S.out.1
        subst hov
        go_wp2_with fail
        (with_reducible refine (((CO0 _).out).mono ?_))
        rintro e W2 ⟨rfl, hb2⟩
        have hb3 : Below W2.heap.size W2 (W2.alloc (Obj.cells #[Value.int IntKind.i64 0, Value.int IntKind.i64 1] 45)) := (Below.refl _ _).alloc (Nat.le_refl _) _
        have B3 := Blk.new W2 (.int .i64 0) (.int .i64 1) 45
        have F3 := Frz.new W2 (.int .i64 0) (.int .i64 1) 45
        go_upto_region 8 with fail
        obtain ⟨sb, hsb⟩ : ∃ x, x = W2.heap.size := ⟨_, rfl⟩
        rw [← hsb] at B3 F3
        rw [← hsb]
        have hbw := below_on hb2 hb3
        have hls : W1.heap.size ≤ sb := by rw [hsb]; exact hb2.size
        generalize W2.alloc (Obj.cells #[Value.int IntKind.i64 0, Value.int IntKind.i64 1] 45) = W3 at *
        have S1 : Hid (RSt W1 W3 sb (comS (Z i) X 0).1 (comS (Z i) X 0).2.1 ∧ (comS (Z i) X 0).2.2 = 0 ∧ Vld (comS (Z i) X 0).1 (comS (Z i) X 0).2.1) :=
          ⟨⟨B3, F3, hbw, hls⟩, rfl, (show Vld 0 1 from ⟨by decide, by decide, by decide, by decide, by decide⟩)⟩
        clear CO0 hb2 hb3 B3 F3 hsb hbw hls
        go_wp2_with fail
        go_loopg [9] nx (fun g s9 wx => ∃ k : Nat, s9 = .int .i64 k ∧ g = nx - k ∧ k ≤ nx ∧ Hid (RSt W1 wx sb (comS (Z i) X k).1 (comS (Z i) X k).2.1 ∧ (comS (Z i) X k).2.2 = 0 ∧ Vld (comS (Z i) X k).1 (comS (Z i) X k).2.1))
        case atStart => exact ⟨0, rfl, rfl, Nat.zero_le _, S1⟩
        case round =>
          clear S1
          obtain ⟨k, rfl, rfl, hk, T⟩ := hrel
          rename World => W4
          by_cases hltk : k < nx
          · have wkk : IntKind.i64.wrap ((k : Int) + 1) = ((k + 1 : Nat) : Int) := by rw [IntWalk.i64_in _ (by omega)]; omega
            have HBW := Lib.hid (below_on S.out.2.1 T.out.1.b)
            have M4 := HM.out.on HBW.out
            obtain ⟨xg, xo, rfl, hxg, hxc⟩ := (HX.out.on HBW.out) hn0
            have LT : Hid (W4.cell? ⟨mb, mo + i, none⟩ = some (.slice (some ⟨Ga i, Oa i, none⟩) nx (Ka i)) ∧ mb < W4.heap.size) := ⟨M4.top i hlt, M4.hb⟩
            have LR : Hid (W4.cell? ⟨Ga i, Oa i + k, none⟩ = some (.int .i64 (Z i k)) ∧ Ga i < W4.heap.size) := ⟨M4.cell i k hlt hltk, M4.row i hlt⟩
            have LX : Hid (W4.cell? ⟨xg, xo + k * 2, none⟩ = some (.int .i64 (X k).1) ∧ W4.cell? ⟨xg, xo + k * 2 + 1, none⟩ = some (.int .i64 (X k).2) ∧ xg < W4.heap.size) := ⟨(hxc k hltk).1, (hxc k hltk).2, hxg⟩
            have hfj := HZ.out i hlt k hltk
            have vx := HV.out k hltk
            have vf : Vld (Z i k) 1 := ⟨by omega, by omega, by omega, by omega, by simp⟩
            have hstep : comS (Z i) X (k + 1) = if (mulT (Z i k) 1 (X k).1 (X k).2).2.2 = 0 then addT (comS (Z i) X k).1 (comS (Z i) X k).2.1 (mulT (Z i k) 1 (X k).1 (X k).2).1 (mulT (Z i k) 1 (X k).1 (X k).2).2.1 else mulT (Z i k) 1 (X k).1 (X k).2 := by
              rw [comS, if_pos T.out.2.1]
            have HEND := Lib.hid (fun (h : (comS (Z i) X (k + 1)).2.2 ≠ 0) => comS_end (f := Z i) (X := X) (n := nx) h (by omega))
            have T2 := T.out
            clear T M4 hxg hxc
            obtain ⟨sn, sd, se, hs⟩ : ∃ a b c, comS (Z i) X k = (a, b, c) := ⟨_, _, _, rfl⟩
            rw [hs] at T2 hstep
            obtain ⟨sC, rfl, vs⟩ := T2
            simp only at sC vs hstep
            clear hs
            have HC := Lib.hid sC
            clear sC
            obtain ⟨qn, qd, qe, hq⟩ : ∃ a b c, mulT (Z i k) 1 (X k).1 (X k).2 = (a, b, c) := ⟨_, _, _, rfl⟩
            rw [hq] at hstep
            simp only at hstep
            have CO := fun w => Lib.hid (refOf_any (Z i k) w)
            have CT := fun w => Lib.hid (refTim_any (Z i k) 1 (X k).1 (X k).2 w vf vx qn qd qe hq)
            have hmc := mulT_cases (Z i k) 1 (X k).1 (X k).2
            rw [hq] at hmc
            generalize (X k).1 = xn at *
            generalize (X k).2 = xd at *
            generalize Z i k = fm at *
            obtain ⟨rg, hrg⟩ : ∃ x, Ga i = x := ⟨_, rfl⟩
            obtain ⟨ro, hro⟩ : ∃ x, Oa i = x := ⟨_, rfl⟩
            obtain ⟨rc, hrc⟩ : ∃ x, Ka i = x := ⟨_, rfl⟩
            rw [hrg, hro, hrc] at LT
            rw [hrg, hro] at LR
            have HST := Lib.hid hstep
            have HMC := Lib.hid hmc
            have HVS := Lib.hid vs
            clear hstep hmc vs vx vf hq hfj hrg hro hrc
            go_upto_region 11 with fail
            refine wp_region_each (fun L A W => ∃ (v : Nat → Value) (g : Nat → Nat), A = ⟨#[_, _, _, _, _, _, _, _, _, _, v 10, v 11, _, _, _, _, _, _, _, _, _, _, _, _, _, _, _, _, _, _, _, _, _, _, v 34, v 35, v 36, v 37, v 38, v 39, v 40, v 41, v 42, v 43, v 44, v 45, v 46, v 47, v 48, v 49, _, _, _, _, _, _, _, _, _, _, _, _, _, _, _, _, _, _], []⟩ ∧ RPdR mb mo R mc rg ro rc xg xo xc nx i k fm xn xd qn qd qe W4 L v g W) (by kernel_rfl) (by kernel_rfl) ⟨fun jz => if jz = 35 then u35 else if jz = 36 then u36 else if jz = 37 then u37 else if jz = 38 then u38 else if jz = 39 then u39 else if jz = 40 then u40 else if jz = 41 then u41 else if jz = 42 then u42 else if jz = 43 then u43 else if jz = 44 then u44 else if jz = 45 then u45 else if jz = 46 then u46 else if jz = 47 then u47 else if jz = 34 then u34 else if jz = 48 then u48 else if jz = 49 then u49 else if jz = 10 then u10 else if jz = 11 then u11 else undef, fun _ => 0, rfl, ⟨Below.drew (Below.refl _ _), Had.none, Had.none, Had.none, Had.none, Had.none, Had.none, Had.none, Had.none, Had.none, Had.none, Had.none, Had.none, Had.none, Had.none, Had.none, Had.none, Had.none, Had.none, Had.none, Had.none⟩⟩ (rs := [0, 1, 2, 3, 4, 5, 6, 7, 8, 9, 10, 11, 12, 13, 14, 15, 16, 17, 18]) (by kernel_rfl) ?_ ?_
            · refine EachOf.cons [] rfl (by kernel_rfl) ?_ ?_
              · rintro L A W ⟨v, g, rfl, hR⟩ hi hw K hK
                go_simp
                refine hK.out _ _ ?_
                exact ⟨(fun jz => if jz = 35 then .slice (some ⟨mb, mo, none⟩) R mc else v jz), g, rfl, ⟨hR.st, (fun _ => rfl), hR.f1.keep rfl, hR.f2.keep rfl, hR.f3.keep rfl, hR.f4.keep rfl, hR.f5.keep rfl, hR.f6.keep rfl, hR.f7.keep rfl, hR.f8.keep rfl, hR.f9.keep rfl, hR.f10.keep rfl, hR.f11.keep rfl, hR.f12.keep rfl, hR.f13.keep rfl, hR.f14.keep rfl, hR.f15.keep rfl, hR.f16.keep rfl, hR.f18.keep rfl, hR.b16.keep rfl, hR.c17.keepM rfl (fun h => ⟨upd_on h.1, h.2⟩)⟩⟩
              refine EachOf.cons [] rfl (by kernel_rfl) ?_ ?_
              · rintro L A W ⟨v, g, rfl, hR⟩ hi hw K hK
                go_simp
                refine hK.out _ _ ?_
                exact ⟨(fun jz => if jz = 36 then .int .i64 (i : Int) else v jz), g, rfl, ⟨hR.st, hR.f0.keep rfl, (fun _ => rfl), hR.f2.keep rfl, hR.f3.keep rfl, hR.f4.keep rfl, hR.f5.keep rfl, hR.f6.keep rfl, hR.f7.keep rfl, hR.f8.keep rfl, hR.f9.keep rfl, hR.f10.keep rfl, hR.f11.keep rfl, hR.f12.keep rfl, hR.f13.keep rfl, hR.f14.keep rfl, hR.f15.keep rfl, hR.f16.keep rfl, hR.f18.keep rfl, hR.b16.keep rfl, hR.c17.keepM rfl (fun h => ⟨upd_on h.1, h.2⟩)⟩⟩
              refine EachOf.cons [0, 1] rfl (by kernel_rfl) ?_ ?_
              · rintro L A W ⟨v, g, rfl, hR⟩ hi hw K hK
                have e0 := hR.f0 (hw 0 (by simp))
                have e1 := hR.f1 (hw 1 (by simp))
                simp only [e0, e1]
                clear e0 e1
                go_simp
                refine hK.out _ _ ?_
                exact ⟨(fun jz => if jz = 35 then .slice (some ⟨mb, mo, none⟩) R mc else if jz = 36 then .int .i64 (i : Int) else if jz = 37 then .pointer (some ⟨mb, mo + i, none⟩) else v jz), g, rfl, ⟨hR.st, (fun _ => rfl), (fun _ => rfl), (fun _ => rfl), hR.f3.keep rfl, hR.f4.keep rfl, hR.f5.keep rfl, hR.f6.keep rfl, hR.f7.keep rfl, hR.f8.keep rfl, hR.f9.keep rfl, hR.f10.keep rfl, hR.f11.keep rfl, hR.f12.keep rfl, hR.f13.keep rfl, hR.f14.keep rfl, hR.f15.keep rfl, hR.f16.keep rfl, hR.f18.keep rfl, hR.b16.keep rfl, hR.c17.keepM rfl (fun h => ⟨upd_on h.1, h.2⟩)⟩⟩
              refine EachOf.cons [2] rfl (by kernel_rfl) ?_ ?_
              · rintro L A W ⟨v, g, rfl, hR⟩ hi hw K hK
                have e2 := hR.f2 (hw 2 (by simp))
                simp only [e2]
                clear e2
                have q0 := (hR.st.cell (p := ⟨mb, mo + i, none⟩) LT.out.2).trans LT.out.1
                go_simp
                refine hK.out _ _ ?_
                exact ⟨(fun jz => if jz = 37 then .pointer (some ⟨mb, mo + i, none⟩) else if jz = 38 then .slice (some ⟨rg, ro, none⟩) nx rc else v jz), g, rfl, ⟨hR.st, hR.f0.keep rfl, hR.f1.keep rfl, (fun _ => rfl), (fun _ => rfl), hR.f4.keep rfl, hR.f5.keep rfl, hR.f6.keep rfl, hR.f7.keep rfl, hR.f8.keep rfl, hR.f9.keep rfl, hR.f10.keep rfl, hR.f11.keep rfl, hR.f12.keep rfl, hR.f13.keep rfl, hR.f14.keep rfl, hR.f15.keep rfl, hR.f16.keep rfl, hR.f18.keep rfl, hR.b16.keep rfl, hR.c17.keepM rfl (fun h => ⟨upd_on h.1, h.2⟩)⟩⟩
              refine EachOf.cons [] rfl (by kernel_rfl) ?_ ?_
              · rintro L A W ⟨v, g, rfl, hR⟩ hi hw K hK
                go_simp
                refine hK.out _ _ ?_
                exact ⟨(fun jz => if jz = 39 then .int .i64 (k : Int) else v jz), g, rfl, ⟨hR.st, hR.f0.keep rfl, hR.f1.keep rfl, hR.f2.keep rfl, hR.f3.keep rfl, (fun _ => rfl), hR.f5.keep rfl, hR.f6.keep rfl, hR.f7.keep rfl, hR.f8.keep rfl, hR.f9.keep rfl, hR.f10.keep rfl, hR.f11.keep rfl, hR.f12.keep rfl, hR.f13.keep rfl, hR.f14.keep rfl, hR.f15.keep rfl, hR.f16.keep rfl, hR.f18.keep rfl, hR.b16.keep rfl, hR.c17.keepM rfl (fun h => ⟨upd_on h.1, h.2⟩)⟩⟩
              refine EachOf.cons [3, 4] rfl (by kernel_rfl) ?_ ?_
              · rintro L A W ⟨v, g, rfl, hR⟩ hi hw K hK
                have e3 := hR.f3 (hw 3 (by simp))
                have e4 := hR.f4 (hw 4 (by simp))
                simp only [e3, e4]
                clear e3 e4
                go_simp
                refine hK.out _ _ ?_
                exact ⟨(fun jz => if jz = 38 then .slice (some ⟨rg, ro, none⟩) nx rc else if jz = 39 then .int .i64 (k : Int) else if jz = 40 then .pointer (some ⟨rg, ro + k, none⟩) else v jz), g, rfl, ⟨hR.st, hR.f0.keep rfl, hR.f1.keep rfl, hR.f2.keep rfl, (fun _ => rfl), (fun _ => rfl), (fun _ => rfl), hR.f6.keep rfl, hR.f7.keep rfl, hR.f8.keep rfl, hR.f9.keep rfl, hR.f10.keep rfl, hR.f11.keep rfl, hR.f12.keep rfl, hR.f13.keep rfl, hR.f14.keep rfl, hR.f15.keep rfl, hR.f16.keep rfl, hR.f18.keep rfl, hR.b16.keep rfl, hR.c17.keepM rfl (fun h => ⟨upd_on h.1, h.2⟩)⟩⟩
              refine EachOf.cons [5] rfl (by kernel_rfl) ?_ ?_
              · rintro L A W ⟨v, g, rfl, hR⟩ hi hw K hK
                have e5 := hR.f5 (hw 5 (by simp))
                simp only [e5]
                clear e5
                have q0 := (hR.st.cell (p := ⟨rg, ro + k, none⟩) LR.out.2).trans LR.out.1
                go_simp
                refine hK.out _ _ ?_
                exact ⟨(fun jz => if jz = 40 then .pointer (some ⟨rg, ro + k, none⟩) else if jz = 41 then .int .i64 fm else v jz), g, rfl, ⟨hR.st, hR.f0.keep rfl, hR.f1.keep rfl, hR.f2.keep rfl, hR.f3.keep rfl, hR.f4.keep rfl, (fun _ => rfl), (fun _ => rfl), hR.f7.keep rfl, hR.f8.keep rfl, hR.f9.keep rfl, hR.f10.keep rfl, hR.f11.keep rfl, hR.f12.keep rfl, hR.f13.keep rfl, hR.f14.keep rfl, hR.f15.keep rfl, hR.f16.keep rfl, hR.f18.keep rfl, hR.b16.keep rfl, hR.c17.keepM rfl (fun h => ⟨upd_on h.1, h.2⟩)⟩⟩
              refine EachOf.cons [6] rfl (by kernel_rfl) ?_ ?_
              · rintro L A W ⟨v, g, rfl, hR⟩ hi hw K hK
                have e6 := hR.f6 (hw 6 (by simp))
                simp only [e6]
                clear e6
                go_simp
                go_at_call 53
                (with_reducible refine ((CO _).out).mono ?_)
                rintro e w2 ⟨rfl, hb⟩
                go_simp
                refine hK.out _ _ ?_
                exact ⟨(fun jz => if jz = 41 then .int .i64 fm else if jz = 42 then .agg #[.int .i64 fm, .int .i64 1] else v jz), g, rfl, ⟨below_on hR.st hb, hR.f0.keep rfl, hR.f1.keep rfl, hR.f2.keep rfl, hR.f3.keep rfl, hR.f4.keep rfl, hR.f5.keep rfl, (fun _ => rfl), (fun _ => rfl), hR.f8.keep rfl, hR.f9.keep rfl, hR.f10.keep rfl, hR.f11.keep rfl, hR.f12.keep rfl, hR.f13.keep rfl, hR.f14.keep rfl, hR.f15.keep rfl, hR.f16.keep rfl, hR.f18.keep rfl, hR.b16.keepM rfl (fun h => h.on hb), hR.c17.keepM rfl (fun h => ⟨upd_on h.1, h.2.on hb⟩)⟩⟩
              refine EachOf.cons [] rfl (by kernel_rfl) ?_ ?_
              · rintro L A W ⟨v, g, rfl, hR⟩ hi hw K hK
                go_simp
                refine hK.out _ _ ?_
                exact ⟨(fun jz => if jz = 43 then .slice (some ⟨xg, xo, none⟩) nx xc else v jz), g, rfl, ⟨hR.st, hR.f0.keep rfl, hR.f1.keep rfl, hR.f2.keep rfl, hR.f3.keep rfl, hR.f4.keep rfl, hR.f5.keep rfl, hR.f6.keep rfl, hR.f7.keep rfl, (fun _ => rfl), hR.f9.keep rfl, hR.f10.keep rfl, hR.f11.keep rfl, hR.f12.keep rfl, hR.f13.keep rfl, hR.f14.keep rfl, hR.f15.keep rfl, hR.f16.keep rfl, hR.f18.keep rfl, hR.b16.keep rfl, hR.c17.keepM rfl (fun h => ⟨upd_on h.1, h.2⟩)⟩⟩
              refine EachOf.cons [] rfl (by kernel_rfl) ?_ ?_
              · rintro L A W ⟨v, g, rfl, hR⟩ hi hw K hK
                go_simp
                refine hK.out _ _ ?_
                exact ⟨(fun jz => if jz = 44 then .int .i64 (k : Int) else v jz), g, rfl, ⟨hR.st, hR.f0.keep rfl, hR.f1.keep rfl, hR.f2.keep rfl, hR.f3.keep rfl, hR.f4.keep rfl, hR.f5.keep rfl, hR.f6.keep rfl, hR.f7.keep rfl, hR.f8.keep rfl, (fun _ => rfl), hR.f10.keep rfl, hR.f11.keep rfl, hR.f12.keep rfl, hR.f13.keep rfl, hR.f14.keep rfl, hR.f15.keep rfl, hR.f16.keep rfl, hR.f18.keep rfl, hR.b16.keep rfl, hR.c17.keepM rfl (fun h => ⟨upd_on h.1, h.2⟩)⟩⟩
              refine EachOf.cons [8, 9] rfl (by kernel_rfl) ?_ ?_
              · rintro L A W ⟨v, g, rfl, hR⟩ hi hw K hK
                have e8 := hR.f8 (hw 8 (by simp))
                have e9 := hR.f9 (hw 9 (by simp))
                simp only [e8, e9]
                clear e8 e9
                go_simp
                refine hK.out _ _ ?_
                exact ⟨(fun jz => if jz = 43 then .slice (some ⟨xg, xo, none⟩) nx xc else if jz = 44 then .int .i64 (k : Int) else if jz = 45 then .pointer (some ⟨xg, xo + k * 2, none⟩) else v jz), g, rfl, ⟨hR.st, hR.f0.keep rfl, hR.f1.keep rfl, hR.f2.keep rfl, hR.f3.keep rfl, hR.f4.keep rfl, hR.f5.keep rfl, hR.f6.keep rfl, hR.f7.keep rfl, (fun _ => rfl), (fun _ => rfl), (fun _ => rfl), hR.f11.keep rfl, hR.f12.keep rfl, hR.f13.keep rfl, hR.f14.keep rfl, hR.f15.keep rfl, hR.f16.keep rfl, hR.f18.keep rfl, hR.b16.keep rfl, hR.c17.keepM rfl (fun h => ⟨upd_on h.1, h.2⟩)⟩⟩
              refine EachOf.cons [10] rfl (by kernel_rfl) ?_ ?_
              · rintro L A W ⟨v, g, rfl, hR⟩ hi hw K hK
                have e10 := hR.f10 (hw 10 (by simp))
                simp only [e10]
                clear e10
                have q0 := (hR.st.cell (p := ⟨xg, xo + k * 2, none⟩) LX.out.2.2).trans LX.out.1
                have q1 := (hR.st.cell (p := ⟨xg, xo + k * 2 + 1, none⟩) LX.out.2.2).trans LX.out.2.1
                go_simp
                refine hK.out _ _ ?_
                exact ⟨(fun jz => if jz = 45 then .pointer (some ⟨xg, xo + k * 2, none⟩) else if jz = 46 then .agg #[.int .i64 xn, .int .i64 xd] else v jz), g, rfl, ⟨hR.st, hR.f0.keep rfl, hR.f1.keep rfl, hR.f2.keep rfl, hR.f3.keep rfl, hR.f4.keep rfl, hR.f5.keep rfl, hR.f6.keep rfl, hR.f7.keep rfl, hR.f8.keep rfl, hR.f9.keep rfl, (fun _ => rfl), (fun _ => rfl), hR.f12.keep rfl, hR.f13.keep rfl, hR.f14.keep rfl, hR.f15.keep rfl, hR.f16.keep rfl, hR.f18.keep rfl, hR.b16.keep rfl, hR.c17.keepM rfl (fun h => ⟨upd_on h.1, h.2⟩)⟩⟩
              refine EachOf.cons [7, 11] rfl (by kernel_rfl) ?_ ?_
              · rintro L A W ⟨v, g, rfl, hR⟩ hi hw K hK
                have e7 := hR.f7 (hw 7 (by simp))
                have e11 := hR.f11 (hw 11 (by simp))
                simp only [e7, e11]
                clear e7 e11
                go_simp
                go_at_call 58
                (with_reducible refine ((CT _).out).mono ?_)
                rintro e w2 ⟨rfl, hb⟩
                go_simp
                refine hK.out _ _ ?_
                exact ⟨(fun jz => if jz = 42 then .agg #[.int .i64 fm, .int .i64 1] else if jz = 46 then .agg #[.int .i64 xn, .int .i64 xd] else if jz = 47 then .tuple #[.agg #[.int .i64 qn, .int .i64 qd], .int .i64 qe] else v jz), g, rfl, ⟨below_on hR.st hb, hR.f0.keep rfl, hR.f1.keep rfl, hR.f2.keep rfl, hR.f3.keep rfl, hR.f4.keep rfl, hR.f5.keep rfl, hR.f6.keep rfl, (fun _ => rfl), hR.f8.keep rfl, hR.f9.keep rfl, hR.f10.keep rfl, (fun _ => rfl), (fun _ => rfl), hR.f13.keep rfl, hR.f14.keep rfl, hR.f15.keep rfl, hR.f16.keep rfl, hR.f18.keep rfl, hR.b16.keepM rfl (fun h => h.on hb), hR.c17.keepM rfl (fun h => ⟨upd_on h.1, h.2.on hb⟩)⟩⟩
              refine EachOf.cons [12] rfl (by kernel_rfl) ?_ ?_
              · rintro L A W ⟨v, g, rfl, hR⟩ hi hw K hK
                have e12 := hR.f12 (hw 12 (by simp))
                simp only [e12]
                clear e12
                go_simp
                refine hK.out _ _ ?_
                exact ⟨(fun jz => if jz = 47 then .tuple #[.agg #[.int .i64 qn, .int .i64 qd], .int .i64 qe] else if jz = 34 then .tuple #[.agg #[.int .i64 qn, .int .i64 qd], .int .i64 qe] else v jz), g, rfl, ⟨hR.st, hR.f0.keep rfl, hR.f1.keep rfl, hR.f2.keep rfl, hR.f3.keep rfl, hR.f4.keep rfl, hR.f5.keep rfl, hR.f6.keep rfl, hR.f7.keep rfl, hR.f8.keep rfl, hR.f9.keep rfl, hR.f10.keep rfl, hR.f11.keep rfl, (fun _ => rfl), (fun _ => rfl), hR.f14.keep rfl, hR.f15.keep rfl, hR.f16.keep rfl, hR.f18.keep rfl, hR.b16.keep rfl, hR.c17.keepM rfl (fun h => ⟨upd_on h.1, h.2⟩)⟩⟩
              refine EachOf.cons [13] rfl (by kernel_rfl) ?_ ?_
              · rintro L A W ⟨v, g, rfl, hR⟩ hi hw K hK
                have e13 := hR.f13 (hw 13 (by simp))
                simp only [e13]
                clear e13
                go_simp
                refine hK.out _ _ ?_
                exact ⟨(fun jz => if jz = 34 then .tuple #[.agg #[.int .i64 qn, .int .i64 qd], .int .i64 qe] else if jz = 48 then .agg #[.int .i64 qn, .int .i64 qd] else v jz), g, rfl, ⟨hR.st, hR.f0.keep rfl, hR.f1.keep rfl, hR.f2.keep rfl, hR.f3.keep rfl, hR.f4.keep rfl, hR.f5.keep rfl, hR.f6.keep rfl, hR.f7.keep rfl, hR.f8.keep rfl, hR.f9.keep rfl, hR.f10.keep rfl, hR.f11.keep rfl, hR.f12.keep rfl, (fun _ => rfl), (fun _ => rfl), hR.f15.keep rfl, hR.f16.keep rfl, hR.f18.keep rfl, hR.b16.keep rfl, hR.c17.keepM rfl (fun h => ⟨upd_on h.1, h.2⟩)⟩⟩
              refine EachOf.cons [13] rfl (by kernel_rfl) ?_ ?_
              · rintro L A W ⟨v, g, rfl, hR⟩ hi hw K hK
                have e13 := hR.f13 (hw 13 (by simp))
                simp only [e13]
                clear e13
                go_simp
                refine hK.out _ _ ?_
                exact ⟨(fun jz => if jz = 34 then .tuple #[.agg #[.int .i64 qn, .int .i64 qd], .int .i64 qe] else if jz = 49 then .int .i64 qe else v jz), g, rfl, ⟨hR.st, hR.f0.keep rfl, hR.f1.keep rfl, hR.f2.keep rfl, hR.f3.keep rfl, hR.f4.keep rfl, hR.f5.keep rfl, hR.f6.keep rfl, hR.f7.keep rfl, hR.f8.keep rfl, hR.f9.keep rfl, hR.f10.keep rfl, hR.f11.keep rfl, hR.f12.keep rfl, (fun _ => rfl), hR.f14.keep rfl, (fun _ => rfl), hR.f16.keep rfl, hR.f18.keep rfl, hR.b16.keep rfl, hR.c17.keepM rfl (fun h => ⟨upd_on h.1, h.2⟩)⟩⟩
              refine EachOf.cons [] rfl (by kernel_rfl) ?_ ?_
              · rintro L A W ⟨v, g, rfl, hR⟩ hi hw K hK
                have hz := hR.st.size
                go_simp
                refine hK.out _ _ ?_
                have hb : Below W.heap.size W (W.alloc (Obj.cells #[Value.int IntKind.i64 0, Value.int IntKind.i64 0] 45)) := (Below.refl _ _).alloc (Nat.le_refl _) _
                exact ⟨(fun jz => if jz = 10 then .pointer (some ⟨W.heap.size, 0, none⟩) else v jz), (fun jz => if jz = 16 then W.heap.size else g jz), rfl, ⟨below_on hR.st hb, hR.f0.keep rfl, hR.f1.keep rfl, hR.f2.keep rfl, hR.f3.keep rfl, hR.f4.keep rfl, hR.f5.keep rfl, hR.f6.keep rfl, hR.f7.keep rfl, hR.f8.keep rfl, hR.f9.keep rfl, hR.f10.keep rfl, hR.f11.keep rfl, hR.f12.keep rfl, hR.f13.keep rfl, hR.f14.keep rfl, hR.f15.keep rfl, (fun _ => rfl), hR.f18.keep rfl, (fun _ => Own.new _ _ _ _ hz), (fun h => absurd ((hR.c17 (upd_back h rfl)).1) (by simp [hi]))⟩⟩
              refine EachOf.cons [16, 14] rfl (by kernel_rfl) ?_ ?_
              · rintro L A W ⟨v, g, rfl, hR⟩ hi hw K hK
                have e16 := hR.f16 (hw 16 (by simp))
                have e14 := hR.f14 (hw 14 (by simp))
                simp only [e16, e14]
                clear e16 e14
                have o2 := hR.b16 (hw 16 (by simp))
                have o1 := o2.1
                have HO := Lib.hid o2
                clear o2
                obtain ⟨_, ⟨u5, v5, l5, p5, q5⟩, r5, s5⟩ := HO.out
                go_simp
                have o2 := HO.out
                refine hK.out _ _ ?_
                exact ⟨(fun jz => if jz = 10 then .pointer (some ⟨g 16, 0, none⟩) else if jz = 48 then .agg #[.int .i64 qn, .int .i64 qd] else v jz), g, rfl, ⟨(hR.st.setCell (by simpa using o1) _).setCell (by simpa using o1) _, hR.f0.keep rfl, hR.f1.keep rfl, hR.f2.keep rfl, hR.f3.keep rfl, hR.f4.keep rfl, hR.f5.keep rfl, hR.f6.keep rfl, hR.f7.keep rfl, hR.f8.keep rfl, hR.f9.keep rfl, hR.f10.keep rfl, hR.f11.keep rfl, hR.f12.keep rfl, hR.f13.keep rfl, (fun _ => rfl), hR.f15.keep rfl, (fun _ => rfl), hR.f18.keep rfl, hR.b16.keepM rfl (fun h => h.set), (fun _ => ⟨upd_on (hw 16 (by simp)), o2.setw⟩)⟩⟩
              refine EachOf.cons [15] rfl (by kernel_rfl) ?_ ?_
              · rintro L A W ⟨v, g, rfl, hR⟩ hi hw K hK
                have e15 := hR.f15 (hw 15 (by simp))
                simp only [e15]
                clear e15
                go_simp
                refine hK.out _ _ ?_
                exact ⟨(fun jz => if jz = 49 then .int .i64 qe else if jz = 11 then .int .i64 qe else v jz), g, rfl, ⟨hR.st, hR.f0.keep rfl, hR.f1.keep rfl, hR.f2.keep rfl, hR.f3.keep rfl, hR.f4.keep rfl, hR.f5.keep rfl, hR.f6.keep rfl, hR.f7.keep rfl, hR.f8.keep rfl, hR.f9.keep rfl, hR.f10.keep rfl, hR.f11.keep rfl, hR.f12.keep rfl, hR.f13.keep rfl, hR.f14.keep rfl, (fun _ => rfl), hR.f16.keep rfl, (fun _ => rfl), hR.b16.keep rfl, hR.c17.keepM rfl (fun h => ⟨upd_on h.1, h.2⟩)⟩⟩
              exact EachOf.nil
            rintro L A W ⟨v, g, rfl, hR⟩ hL
            have e18 := hR.f18 (hL 18 (by simp))
            have e16 := hR.f16 (hL 16 (by simp))
            obtain ⟨_, c17⟩ := hR.c17 (hL 17 (by simp))
            have HC5 := Lib.hid (HC.out.on hR.st)
            obtain ⟨tb, htb⟩ : ∃ x, g 16 = x := ⟨_, rfl⟩
            rw [htb] at e16 c17
            simp only [e16, e18]
            obtain ⟨_, t0, t1⟩ := c17
            obtain ⟨_, s0, s1⟩ := HC5.out.s
            have HBW5 := Lib.hid (below_on HBW.out hR.st)
            clear e16 e18 htb hR hL HC CO CT LT LR LX HBW
            rcases HMC.out with ⟨n', d', e1, _, _, vq, _⟩ | ⟨e', e1, hne, _⟩
            · obtain ⟨rfl, rfl, rfl⟩ := three e1
              have hstep := HST.out
              rw [if_pos rfl] at hstep
              obtain ⟨tn, td, te, ht⟩ : ∃ a b c, addT sn sd qn qd = (a, b, c) := ⟨_, _, _, rfl⟩
              rw [ht] at hstep
              have CA := fun W => Lib.hid (refAdd_any sn sd qn qd W HVS.out vq tn td te ht)
              have hac := addT_cases sn sd qn qd
              rw [ht] at hac
              have HST2 := Lib.hid hstep
              have HAC := Lib.hid hac
              clear hstep hac ht vq HST HMC e1
              go_wp2_with fail
              (with_reducible refine (((CA _).out).mono ?_))
              rintro e W5 ⟨rfl, hb5⟩
              have HC6 := Lib.hid (HC5.out.on hb5)
              have HBW6 := Lib.hid (below_on HBW5.out hb5)
              clear CA hb5 HC5 HBW5 t0 t1 s0 s1
              go_upto_region 15 with fail
              have hb6 : Below W5.heap.size W5 (W5.alloc (Obj.cells #[Value.int IntKind.i64 tn, Value.int IntKind.i64 td] 45)) := (Below.refl _ _).alloc (Nat.le_refl _) _
              have B6 := Blk.new W5 (.int .i64 tn) (.int .i64 td) 45
              have HC7 := Lib.hid (HC6.out.on hb6)
              have HBW7 := Lib.hid (below_on HBW6.out hb6)
              obtain ⟨ub, hub⟩ : ∃ x, x = W5.heap.size := ⟨_, rfl⟩
              rw [← hub] at B6
              rw [← hub]
              generalize W5.alloc (Obj.cells #[Value.int IntKind.i64 tn, Value.int IntKind.i64 td] 45) = W6 at *
              clear hb6 hub HC6 HBW6
              obtain ⟨_, t0, t1⟩ := B6
              obtain ⟨_, s0, s1⟩ := HC7.out.s
              obtain ⟨g0, g1⟩ := HC7.out.sf
              rcases HAC.out with ⟨n', d', e1, _, _, vt, _⟩ | ⟨e', e1, hne, _⟩
              · obtain ⟨rfl, rfl, rfl⟩ := three e1
                have T : Hid (RSt W1 ((W6.setCell ⟨sb, 0, none⟩ (.int .i64 tn)).setCell ⟨sb, 1, none⟩ (.int .i64 td)) sb (comS (Z i) X (k + 1)).1 (comS (Z i) X (k + 1)).2.1 ∧ (comS (Z i) X (k + 1)).2.2 = 0 ∧ Vld (comS (Z i) X (k + 1)).1 (comS (Z i) X (k + 1)).2.1) := by
                  rw [HST2.out]
                  exact ⟨HC7.out.set tn td, rfl, vt⟩
                clear vt e1
                go_wp2_with fail
                clear s0 s1 g0 g1 t0 t1 HC7
                go_roundg (nx - (k + 1))
                case measure => omega
                case rel => exact ⟨k + 1, rfl, rfl, by omega, T⟩
              · obtain ⟨rfl, rfl, rfl⟩ := three e1
                have HN := Lib.hid hne
                have nb : (te != 0) = true := by simpa using hne
                have HZZ : Hid (comS (Z i) X nx = (0, 0, te)) := by
                  have h := HEND.out (by rw [HST2.out]; exact HN.out)
                  rw [HST2.out] at h
                  exact h
                clear e1
                go_wp2_with fail
                go_returns
                exact ⟨HBW7.out, .inr ⟨rfl, .inl ⟨i, hlt, S.out.2.2, by rw [HZZ.out]; exact HN.out, by rw [HZZ.out]; rfl⟩⟩⟩
            · obtain ⟨rfl, rfl, rfl⟩ := three e1
              have HN := Lib.hid hne
              have nb : (qe != 0) = true := by simpa using hne
              have hst := HST.out
              rw [if_neg hne] at hst
              have HZZ : Hid (comS (Z i) X nx = (0, 0, qe)) := by
                have h := HEND.out (by rw [hst]; exact HN.out)
                rw [hst] at h
                exact h
              clear e1 hst HST HMC
              go_wp2_with fail
              go_returns
              exact ⟨HBW5.out, .inr ⟨rfl, .inl ⟨i, hlt, S.out.2.2, by rw [HZZ.out]; exact HN.out, by rw [HZZ.out]; rfl⟩⟩⟩
          · have e : k = nx := by omega
            subst e
            obtain ⟨_, s0, s1⟩ := T.out.1.s
            have HBW := Lib.hid (below_on S.out.2.1 T.out.1.b)
            have hb8 : Below W4.heap.size W4 (W4.alloc (Obj.cells #[Value.int IntKind.i64 (comS (Z i) X k).1, Value.int IntKind.i64 (comS (Z i) X k).2.1] 45)) := (Below.refl _ _).alloc (Nat.le_refl _) _
            have O8 := Lib.hid (own_only (own_only S.out.1 (Only.of_below (S := fun _ => False) T.out.1.b) (fun _ _ q => q)) (Only.of_below (S := fun _ => False) hb8) (fun _ _ q => q))
            have B8 := Lib.hid (below_on HBW.out hb8)
            have N8 := Lib.hid (two_news (row2 W4 (.int .i64 (comS (Z i) X k).1) (.int .i64 (comS (Z i) X k).2.1) 45))
            have HOK := Lib.hid T.out.2.1
            clear hb8
            go_wp2_with (at_builtin; refine wpList_append_own _ rfl _ _ 35 rfl w.heap.size 45 i0 (Value.agg #[Value.int IntKind.i64 0, Value.int IntKind.i64 0]) 2 16 Try.underlying35 hi0 hz0 hz1 hz2 rfl (by decide) _ _ _ rfl O8.out ⟨W4.heap.size, 0, none⟩ 1 1 [.int .i64 (comS (Z i) X k).1, .int .i64 (comS (Z i) X k).2.1] rfl rfl N8.out (by intro u hu; simp at hu; rcases hu with rfl | rfl <;> rfl) (by unfold maxLen; omega) (by omega) B8.out.size ?_; intro v' w9 hown hgrow _)
            have T9 : Hid (w9.ownsRow w.heap.size 45 2 v' (i + 1) (celF (fun l => ((comS (Z l) X k).1, (comS (Z l) X k).2.1)) (i + 1)) ∧ Below w.heap.size w w9 ∧ ∀ l, l < i + 1 → (comS (Z l) X k).2.2 = 0) :=
              ⟨by rw [celF_succ]; exact hown, below_grown B8.out O8.out hgrow, fun l hl => by
                by_cases e : l = i
                · rw [e]; exact HOK.out
                · exact S.out.2.2 l (by omega)⟩
            clear hown hgrow O8 B8 N8 HOK s0 s1 S T HBW
            go_roundg (R - (i + 1))
            case measure => omega
            case rel => exact ⟨i + 1, rfl, rfl, by omega, T9⟩
      · have e : i = R := by omega
        subst e
        obtain ⟨oa, oc, hov⟩ := own_form S.out.1
        subst hov
        go_wp2_with fail
        go_returns
        exact ⟨S.out.2.1, .inr ⟨rfl, .inr ⟨S.out.2.2, _, rfl, S.out.1⟩⟩⟩
  · have t1 : ¬ ((nx : Int) = (n : Int)) := by omega
    go_enter Try.func30, Try.ntmps30
    go_wp2_with fail
    go_returns
    exact ⟨Below.refl _ _, .inl ⟨hne, rfl⟩⟩

end Go.Proofs.Ytjggnmbdgagkoaa
