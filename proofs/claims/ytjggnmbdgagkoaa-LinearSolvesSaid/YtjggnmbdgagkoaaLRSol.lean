/- Layer 4: the reference's Right and Solve. -/
import Derived.Test.YtjggnmbdgagkoaaLREl
import Derived.Test.YtjggnmbdgagkoaaLAddM
import Derived.Test.YtjggnmbdgagkoaaRRef8
namespace Go.Proofs.Ytjggnmbdgagkoaa
set_option linter.unusedVariables false
open Go.RowKit Go.Shelf

def celG (F : Nat → Int × Int) (i : Nat) : List Value := (List.range i).flatMap fun l => [.int .i64 (F l).1, .int .i64 (F l).2]
theorem celG_succ (F : Nat → Int × Int) (i : Nat) : celG F (i + 1) = celG F i ++ [.int .i64 (F i).1, .int .i64 (F i).2] := by
  unfold celG
  rw [List.range_succ, List.flatMap_append]
  simp
theorem celG_len (F : Nat → Int × Int) (i : Nat) : (celG F i).length = i * 2 := by
  induction i with
  | zero => rfl
  | succ i ih => rw [celG_succ, List.length_append, ih]; simp; omega
theorem celG_get (F : Nat → Int × Int) : ∀ i l, l < i → (celG F i)[l * 2]? = some (.int .i64 (F l).1) ∧ (celG F i)[l * 2 + 1]? = some (.int .i64 (F l).2) := by
  intro i
  induction i with
  | zero => intro l h; omega
  | succ i ih =>
    intro l h
    rw [celG_succ]
    by_cases e : l = i
    · subst e
      have hl := celG_len F l
      rw [List.getElem?_append_right (by omega), List.getElem?_append_right (by omega), hl]
      simp
    · have hl := celG_len F i
      rw [List.getElem?_append_left (by omega), List.getElem?_append_left (by omega)]
      exact ih l (by omega)
theorem celG_own {W : World} {B i : Nat} {t : TypeId} {v : Value} {F : Nat → Int × Int} (h : W.ownsRow B t 2 v i (celG F i)) : ∃ ao cp, v = .slice ao i cp ∧ IFr W ao i F := by
  rcases h.2 with ⟨h1, h2⟩ | ⟨g, cap, cur, hv, _, hg, _⟩
  · exact ⟨none, 0, by rw [h1, h2], fun h => by omega⟩
  · refine ⟨_, cap, hv, fun _ => ⟨g, 0, rfl, (Array.getElem?_eq_some_iff.1 hg).1, fun j hj => ?_⟩⟩
    have hc := h.cells (g := g) (by rw [hv]; rfl)
    have e : ∀ x, (⟨g, 0, none⟩ : Addr).add x = ⟨g, x, none⟩ := fun x => by unfold Addr.add; split <;> simp_all
    have c0 := hc (j * 2) _ (celG_get F i j hj).1
    have c1 := hc (j * 2 + 1) _ (celG_get F i j hj).2
    rw [e] at c0 c1
    simp only [Nat.zero_add]
    exact ⟨c0, c1⟩
theorem two_newsG {W : World} {B : Nat} {x y : Value} (h : Row W B [x, y]) : ∀ j u, [x, y][j]? = some u → W.cell? ((⟨B, 0, none⟩ : Addr).add j) = some u := fun j u hu => by
  have e : (⟨B, 0, none⟩ : Addr).add j = ⟨B, j, none⟩ := by unfold Addr.add; split <;> simp_all
  rw [e]
  match j, hu with
  | 0, hu => simp at hu; subst hu; exact h.2 0 (by simp)
  | 1, hu => simp at hu; subst hu; exact h.2 1 (by simp)
  | (n + 2), hu => simp at hu

set_option maxHeartbeats 4000000 in
theorem refRight_any (ra : Option Addr) (nr rc : Nat) (f : Nat → Int) (w : World) (hr : IRow w ra nr f) (hn : nr ≤ 20) :
    Calls Try.prog 26 #[.slice ra nr rc] w fun e w' => e = .returned (.bool (wB nr f 67108864)) ∧ Below w.heap.size w w' := by
  have HR := Lib.hid hr
  clear hr
  go_enter Try.func26, Try.ntmps26
  go_wp2_with fail
  have S0 : Hid (Below w.heap.size w w ∧ ∀ l, l < 0 → -67108864 ≤ f l ∧ f l ≤ 67108864) := ⟨Below.refl _ _, fun l h => by omega⟩
  go_loopg [3] nr (fun g s3 wx => ∃ i : Nat, s3 = .int .i64 i ∧ g = nr - i ∧ i ≤ nr ∧ Hid (Below w.heap.size w wx ∧ ∀ l, l < i → -67108864 ≤ f l ∧ f l ≤ 67108864))
  case atStart => exact ⟨0, rfl, rfl, Nat.zero_le _, S0⟩
  case round =>
    clear S0
    obtain ⟨i, rfl, rfl, hi, S⟩ := hrel
    rename World => W1
    by_cases hlt : i < nr
    · have wk : IntKind.i64.wrap ((i : Int) + 1) = ((i + 1 : Nat) : Int) := by rw [IntWalk.i64_in _ (by omega)]; omega
      obtain ⟨g, o, hra, hg, hc⟩ := (HR.out.on S.out.1) (by omega)
      subst hra
      have p1 := hc i hlt
      obtain ⟨fi, hfi⟩ : ∃ x, f i = x := ⟨_, rfl⟩
      rw [hfi] at p1
      have CW0 := fun W => refWithin_any fi 67108864 W (by omega) (by omega)
      have HFI := Lib.hid hfi
      clear hc hg hfi
      by_cases hin : -67108864 ≤ fi ∧ fi ≤ 67108864
      · simp only [decide_eq_true hin] at CW0
        have CW := fun W => Lib.hid (CW0 W)
        have HI := Lib.hid hin
        clear CW0 hin
        go_wp2_with fail
        (with_reducible refine (((CW _).out).mono ?_))
        rintro e W2 ⟨rfl, hb⟩
        have T : Hid (Below w.heap.size w W2 ∧ ∀ l, l < i + 1 → -67108864 ≤ f l ∧ f l ≤ 67108864) := ⟨below_on S.out.1 hb, fun l hl => by
          by_cases e : l = i
          · rw [e, HFI.out]; exact HI.out
          · exact S.out.2 l (by omega)⟩
        clear p1 CW hb S
        go_wp2_with fail
        go_roundg (nr - (i + 1))
        case measure => omega
        case rel => exact ⟨i + 1, rfl, rfl, by omega, T⟩
      · simp only [decide_eq_false hin] at CW0
        have CW := fun W => Lib.hid (CW0 W)
        have HI := Lib.hid hin
        clear CW0 hin
        go_wp2_with fail
        (with_reducible refine (((CW _).out).mono ?_))
        rintro e W2 ⟨rfl, hb⟩
        have HB := Lib.hid (below_on S.out.1 hb)
        have HN : Hid (wB nr f 67108864 = false) := decide_eq_false (fun h => HI.out (by have := h i hlt; rw [HFI.out] at this; exact this))
        clear p1 CW hb S
        go_wp2_with fail
        go_ret
        exact ⟨by rw [HN.out]; rfl, HB.out⟩
    · have e : i = nr := by omega
      subst e
      have HN : Hid (wB i f 67108864 = true) := decide_eq_true S.out.2
      go_wp2_with fail
      go_ret
      exact ⟨by rw [HN.out]; rfl, S.out.1⟩

/-- A number that is left in the last column, behind the pivots, makes that column a pivot. -/
theorem RInv.gap {R n m k : Nat} {M U E : Nat → Nat → Int} {p : Nat → Nat} {D s : Int} (h : RInv R (n + 1) m M U s k n p E D) (i : Nat) (hk : k ≤ i) (hi : i < R) (hne : E i n ≠ 0) : ∃ k' p' E' D', FinW R (n + 1) M k' p' E' D' ∧ ∃ l, l < k' ∧ p' l = n := by
  have key : ∀ (U E : Nat → Nat → Int) (s : Int), RInv R (n + 1) m M U s k n p E D → E k n ≠ 0 → ∃ k' p' E' D', FinW R (n + 1) M k' p' E' D' ∧ ∃ l, l < k' ∧ p' l = n := fun U E s h hne => by
    obtain ⟨E', h', _⟩ := h.pivot (by omega) (by omega) hne
    exact ⟨_, _, _, _, h'.fin.1, k, by omega, by unfold updP; rw [if_pos rfl]⟩
  by_cases e : i = k
  · subst e; exact key U E s h hne
  · exact key _ _ _ (h.swap i (by omega) hi) (by unfold swE; rw [if_pos rfl]; exact hne)
/-- What the reference's Solve returns. -/
def RSoP (R n : Nat) (M : Nat → Nat → Int) (w w' : World) (e : Ending) : Prop :=
  ∃ k p E D, FinW R (n + 1) M k p E D ∧
    (((∃ l, l < k ∧ p l = n) ∧ e = .returned (.tuple #[.slice none 0 0, .int .i64 22])) ∨
     ((¬ ∃ l, l < k ∧ p l = n) ∧ k < n ∧ e = .returned (.tuple #[.slice none 0 0, .int .i64 21])) ∨
     ((¬ ∃ l, l < k ∧ p l = n) ∧ k = n ∧ (D ≠ 0 ∧ (-1152921504606846976 ≤ D ∧ D ≤ 1152921504606846976) ∧ ∀ l, l < n → -1152921504606846976 ≤ E l n ∧ E l n ≤ 1152921504606846976) ∧ ∃ v, e = .returned (.tuple #[v, .int .i64 0]) ∧ w'.ownsRow w.heap.size 45 2 v n (celG (fun l => shF (E l n) D) n)))

structure RSoR (fb b R Cb gi ci n1 n i : Nat) (va D xn xd xe : Int) (Wc : World) (L : Nat → Bool) (v : Nat → Value) (g : Nat → Nat) (W : World) : Prop where
  st : Below Wc.heap.size Wc W
  f0 : Had L 0 (v 51 = .pointer (some ⟨fb, 0, none⟩))
  f1 : Had L 1 (v 52 = .slice (some ⟨b, 0, none⟩) R Cb)
  f2 : Had L 2 (v 53 = .int .i64 (i : Int))
  f3 : Had L 3 (v 54 = .pointer (some ⟨b, i, none⟩))
  f4 : Had L 4 (v 55 = .slice (some ⟨gi, 0, none⟩) n1 ci)
  f5 : Had L 5 (v 56 = .int .i64 (n : Int))
  f6 : Had L 6 (v 57 = .pointer (some ⟨gi, n, none⟩))
  f7 : Had L 7 (v 58 = .int .i64 va)
  f8 : Had L 8 (v 59 = .pointer (some ⟨fb, 2, none⟩))
  f9 : Had L 9 (v 60 = .int .i64 D)
  f10 : Had L 10 (v 61 = .tuple #[.agg #[.int .i64 xn, .int .i64 xd], .int .i64 xe])
  f11 : Had L 11 (v 50 = .tuple #[.agg #[.int .i64 xn, .int .i64 xd], .int .i64 xe])
  f12 : Had L 12 (v 62 = .agg #[.int .i64 xn, .int .i64 xd])
  f13 : Had L 13 (v 63 = .int .i64 xe)
  f14 : Had L 14 (v 11 = .pointer (some ⟨g 14, 0, none⟩))
  f16 : Had L 16 (v 12 = .int .i64 xe)
  b14 : Had L 14 (Own Wc.heap.size W (g 14))
  c15 : Had L 15 (L 14 = true ∧ Blk W (g 14) (.int .i64 xn) (.int .i64 xd))

set_option maxRecDepth 100000 in
set_option maxHeartbeats 32000000 in
theorem refSolve_any (mb mo mc R n rg ro rc : Nat) (Ga Oa Ka : Nat → Nat) (Z : Nat → Nat → Int) (f : Nat → Int) (w : World) (hM : Mat w mb mo R n Ga Oa Ka Z) (hR0 : 0 < R) (hR6 : R ≤ 6) (hn0 : 0 < n) (hn12 : n ≤ 12) (hZ : ∀ i j, i < R → j < n → -32 ≤ Z i j ∧ Z i j ≤ 32) (hr : IRow w (some ⟨rg, ro, none⟩) R f) (hf : rngF R f) :
    Calls Try.prog 27 #[.slice (some ⟨mb, mo, none⟩) R mc, .slice (some ⟨rg, ro, none⟩) R rc] w fun e w' => Below w.heap.size w w' ∧ RSoP R n (extE n Z f) w w' e := by
  have hsm : ∀ i j, i < R → j < n + 1 → - cB n j ≤ extE n Z f i j ∧ extE n Z f i j ≤ cB n j := fun i j hi hj => by
    unfold cB
    by_cases e : j = n
    · rw [e, ext_last, if_pos rfl]; exact hf i hi
    · rw [ext_old (by omega), if_neg e]; exact hZ i j hi (by omega)
  have CC := Lib.hid (refCopy_any mb mo mc R n R rc (n + 1) Ga Oa Ka Z (extE n Z f) (some ⟨rg, ro, none⟩) f w hM hR0 (by omega) hn0 (by omega) hr (.inr ⟨rfl, rfl, rfl⟩))
  have p0 := hM.top 0 hR0
  rw [Nat.add_zero] at p0
  have HS := Lib.hid hsm
  clear hM hZ hr hf hsm
  obtain ⟨i0, hi0, hz0, hz1, hz2⟩ := info_parts (show (Try.prog.info? 45).map (fun i => (i.zero, i.size, i.bytes)) = some (some (Value.agg #[Value.int IntKind.i64 0, Value.int IntKind.i64 0]), 2, 16) by kernel_rfl)
  go_enter Try.func27, Try.ntmps27
  go_wp2_with fail
  clear p0
  (with_reducible refine ((CC.out).mono ?_))
  rintro e w1 ⟨b0, Cb0, G0, C0, rfl, hCb0, hb1, hG0⟩
  have HB1 := Lib.hid hb1
  have hMt : Mat w1 b0 0 R (n + 1) G0 (fun _ => 0) C0 (extE n Z f) := ⟨hG0.hb, fun i hi => by rw [Nat.zero_add]; exact hG0.top i hi, fun i hi => (hG0.row i hi).2.1, fun i j hi hj => by rw [Nat.zero_add]; exact hG0.cell i j hi hj⟩
  have CE := Lib.hid (refElim_any b0 0 Cb0 R (n + 1) n n G0 (fun _ => 0) C0 (extE n Z f) w1 hMt hR0 (by omega) (by omega) (by omega) (by omega) (.inl hR6) HS.out)
  clear CC hb1 hG0 hMt
  go_wp2_with fail
  (with_reducible refine ((CE.out).mono ?_))
  rintro e w2 ⟨hb2, b, Cb, G, C, U, E, pv, k, p, D, od, rfl, hCb, hG, hO, hI⟩
  obtain ⟨pa, pc, hpv⟩ := own_form hO
  subst hpv
  have kR := hI.kR
  have HI := Lib.hid hI
  have hb3 : Below w2.heap.size w2 (w2.alloc (Obj.cells #[Value.slice (some ⟨b, 0, none⟩) R Cb, Value.slice pa k pc, Value.int .i64 D, Value.bool od] 72)) := (Below.refl _ _).alloc (Nat.le_refl _) _
  have HE : EBlk (w2.alloc (Obj.cells #[Value.slice (some ⟨b, 0, none⟩) R Cb, Value.slice pa k pc, Value.int .i64 D, Value.bool od] 72)) w2.heap.size (.slice (some ⟨b, 0, none⟩) R Cb) (.slice pa k pc) (.int .i64 D) := ⟨by simp, by simp [go_sem], by simp [go_sem], by simp [go_sem], by simp [go_sem], by simp [go_sem], by simp [go_sem]⟩
  have HB2 := Lib.hid (below_on (below_on HB1.out hb2) hb3)
  have HG := Lib.hid (hG.on hb3)
  go_upto_region 3 with fail
  obtain ⟨fb, hfb⟩ : ∃ x, x = w2.heap.size := ⟨_, rfl⟩
  rw [← hfb] at HE
  rw [← hfb]
  generalize w2.alloc (Obj.cells #[Value.slice (some ⟨b, 0, none⟩) R Cb, Value.slice pa k pc, Value.int .i64 D, Value.bool od] 72) = W2 at *
  have HEB := Lib.hid HE
  clear CE hb2 hb3 hG hO hI HE hfb HB1
  have q1 := HEB.out.c1
  go_wp2_with fail
  clear q1
  have S0 : Hid (∀ i, k ≤ i → i < k → E i n = 0) := fun i h1 h2 => by omega
  go_loopg [8] (R - k) (fun g s8 wx => ∃ i : Nat, s8 = .int .i64 i ∧ g = R - i ∧ k ≤ i ∧ i ≤ R ∧ wx = W2 ∧ Hid (∀ j, k ≤ j → j < i → E j n = 0))
  case atStart => exact ⟨k, rfl, rfl, Nat.le_refl _, kR, rfl, S0⟩
  case round =>
    clear S0
    obtain ⟨i, rfl, rfl, hki, hi, rfl, S⟩ := hrel
    rename World => W3
    by_cases hlt : i < R
    · have wk : IntKind.i64.wrap ((i : Int) + 1) = ((i + 1 : Nat) : Int) := by rw [IntWalk.i64_in _ (by omega)]; omega
      have q0 := HEB.out.c0
      have p1 := HG.out.top i hlt
      have p2 := HG.out.cell i n hlt (by omega)
      obtain ⟨vi, hvi⟩ : ∃ x, E i n = x := ⟨_, rfl⟩
      rw [hvi] at p2
      by_cases hz : vi = 0
      · subst hz
        have T : Hid (∀ j, k ≤ j → j < i + 1 → E j n = 0) := fun j h1 h2 => by
          by_cases e : j = i
          · rw [e]; exact hvi
          · exact S.out j h1 (by omega)
        clear hvi S
        go_wp2_with fail
        clear q0 p1 p2
        go_roundg (R - (i + 1))
        case measure => omega
        case rel => exact ⟨i + 1, rfl, rfl, by omega, by omega, rfl, T⟩
      · have hzb : (vi == 0) = false := by simpa using hz
        have HNZ : Hid (E i n ≠ 0) := by show E i n ≠ 0; rw [hvi]; exact hz
        clear hvi hz
        go_wp2_with fail
        go_returns
        obtain ⟨k', p', E', D', hF, hl⟩ := HI.out.gap i hki hlt HNZ.out
        exact ⟨HB2.out, k', p', E', D', hF, .inl ⟨hl, rfl⟩⟩
    · have e : i = R := by omega
      subst e
      have HJ := Lib.hid (HI.out.free (by omega) S.out)
      have HP : Hid (¬ ∃ l, l < k ∧ p l = n) := fun ⟨l, hl, e⟩ => by have := HI.out.lt l hl; omega
      have hkn : k ≤ n := by
        have h1 := up_ge HI.out.up
        rcases Nat.lt_or_ge n k with g | g
        · have := h1 n g; have := HI.out.lt n g; omega
        · exact g
      have q1 := HEB.out.c1
      clear S
      by_cases h : k < n
      · have t1 : (k : Int) < (n : Int) := by omega
        go_wp2_with fail
        go_returns
        exact ⟨HB2.out, k, p, E, D, HJ.out.fin.1, .inr (.inl ⟨HP.out, h, rfl⟩)⟩
      · have t1 : ¬ (k : Int) < (n : Int) := by omega
        have ekn : k = n := by omega
        have HK := Lib.hid ekn
        have HSM := Lib.hid HJ.out.small
        go_wp2_with fail
        clear q1 t1 h ekn
        have S1 : Hid (W3.ownsRow W3.heap.size 45 2 (.slice none 0 0) 0 (celG (fun l => shF (E l n) D) 0) ∧ Below W3.heap.size W3 W3) := ⟨World.ownsRow_nil _ _ _ _, Below.refl _ _⟩
        go_loopg [10, 9] n (fun g s10 s9 wx => ∃ i : Nat, s10 = .int .i64 i ∧ g = n - i ∧ i ≤ n ∧ Hid (wx.ownsRow W3.heap.size 45 2 s9 i (celG (fun l => shF (E l n) D) i) ∧ Below W3.heap.size W3 wx))
        case atStart => exact ⟨0, rfl, rfl, Nat.zero_le _, S1⟩
        case round =>
          clear S1
          obtain ⟨l, rfl, rfl, hl, T⟩ := hrel
          rename World => W1
          by_cases hltl : l < n
          · have wl : IntKind.i64.wrap ((l : Int) + 1) = ((l + 1 : Nat) : Int) := by rw [IntWalk.i64_in _ (by omega)]; omega
            obtain ⟨oa, oc, hov⟩ := own_form T.out.1
            subst hov
            have E1 := HEB.out.on T.out.2
            have G1 := HG.out.on T.out.2
            have lR : l < i := by have := HK.out; omega
            have LM : Hid (W1.cell? ⟨fb, 0, none⟩ = some (.slice (some ⟨b, 0, none⟩) i Cb) ∧ fb < W1.heap.size) := ⟨E1.c0, E1.hb⟩
            have LI : Hid (W1.cell? ⟨b, l, none⟩ = some (.slice (some ⟨G l, 0, none⟩) (n + 1) (C l)) ∧ b < W1.heap.size) := ⟨G1.top l lR, G1.hb⟩
            have LA : Hid (W1.cell? ⟨G l, n, none⟩ = some (.int .i64 (E l n)) ∧ G l < W1.heap.size) := ⟨G1.cell l n lR (by omega), (G1.row l lR).2.1⟩
            have LL : Hid (W1.cell? ⟨fb, 2, none⟩ = some (.int .i64 D) ∧ fb < W1.heap.size) := ⟨E1.c2, E1.hb⟩
            have hs := HSM.out.2 l n lR (by omega)
            have hd := HSM.out.1
            obtain ⟨va, hva⟩ : ∃ x, E l n = x := ⟨_, rfl⟩
            rw [hva] at LA hs
            obtain ⟨xn, xd, xe, hx⟩ : ∃ a b c, makeT va D = (a, b, c) := ⟨_, _, _, rfl⟩
            have CK := fun W => Lib.hid (refMake_any va D W (by omega) (by omega) (by omega) (by omega) xn xd xe hx)
            have HX : Hid (shF (E l n) D = (xn, xd)) := by show shF (E l n) D = (xn, xd); rw [hva]; unfold shF; rw [hx]
            have hn1 : (n : Int) < (n : Int) + 1 := by omega
            clear E1 G1 hs hd hva hx
            go_upto_region 14 with fail
            refine wp_region_each (fun L A W => ∃ (v : Nat → Value) (g : Nat → Nat), A = ⟨#[_, _, _, _, _, _, _, _, _, _, _, v 11, v 12, _, _, _, _, _, _, _, _, _, _, _, _, _, _, _, _, _, _, _, _, _, _, _, _, _, _, _, _, _, _, _, _, _, _, _, _, _, v 50, v 51, v 52, v 53, v 54, v 55, v 56, v 57, v 58, v 59, v 60, v 61, v 62, v 63, _, _, _, _, _], []⟩ ∧ RSoR fb b i Cb (G l) (C l) (n + 1) n l va D xn xd xe W1 L v g W) (by kernel_rfl) (by kernel_rfl) ⟨fun jz => if jz = 51 then u51 else if jz = 52 then u52 else if jz = 53 then u53 else if jz = 54 then u54 else if jz = 55 then u55 else if jz = 56 then u56 else if jz = 57 then u57 else if jz = 58 then u58 else if jz = 59 then u59 else if jz = 60 then u60 else if jz = 61 then u61 else if jz = 50 then u50 else if jz = 62 then u62 else if jz = 63 then u63 else if jz = 11 then u11 else if jz = 12 then u12 else undef, fun _ => 0, rfl, ⟨Below.drew (Below.refl _ _), Had.none, Had.none, Had.none, Had.none, Had.none, Had.none, Had.none, Had.none, Had.none, Had.none, Had.none, Had.none, Had.none, Had.none, Had.none, Had.none, Had.none, Had.none⟩⟩ (rs := [0, 1, 2, 3, 4, 5, 6, 7, 8, 9, 10, 11, 12, 13, 14, 15, 16]) (by kernel_rfl) ?_ ?_
            · refine EachOf.cons [] rfl (by kernel_rfl) ?_ ?_
              · rintro L A W ⟨v, g, rfl, hR⟩ hi hw K hK
                go_simp
                refine hK.out _ _ ?_
                exact ⟨(fun jz => if jz = 51 then .pointer (some ⟨fb, 0, none⟩) else v jz), g, rfl, ⟨hR.st, (fun _ => rfl), hR.f1.keep rfl, hR.f2.keep rfl, hR.f3.keep rfl, hR.f4.keep rfl, hR.f5.keep rfl, hR.f6.keep rfl, hR.f7.keep rfl, hR.f8.keep rfl, hR.f9.keep rfl, hR.f10.keep rfl, hR.f11.keep rfl, hR.f12.keep rfl, hR.f13.keep rfl, hR.f14.keep rfl, hR.f16.keep rfl, hR.b14.keep rfl, hR.c15.keepM rfl (fun h => ⟨upd_on h.1, h.2⟩)⟩⟩
              refine EachOf.cons [0] rfl (by kernel_rfl) ?_ ?_
              · rintro L A W ⟨v, g, rfl, hR⟩ hi hw K hK
                have e0 := hR.f0 (hw 0 (by simp))
                simp only [e0]
                clear e0
                have q0 := (hR.st.cell (p := ⟨fb, 0, none⟩) LM.out.2).trans LM.out.1
                go_simp
                refine hK.out _ _ ?_
                exact ⟨(fun jz => if jz = 51 then .pointer (some ⟨fb, 0, none⟩) else if jz = 52 then .slice (some ⟨b, 0, none⟩) i Cb else v jz), g, rfl, ⟨hR.st, (fun _ => rfl), (fun _ => rfl), hR.f2.keep rfl, hR.f3.keep rfl, hR.f4.keep rfl, hR.f5.keep rfl, hR.f6.keep rfl, hR.f7.keep rfl, hR.f8.keep rfl, hR.f9.keep rfl, hR.f10.keep rfl, hR.f11.keep rfl, hR.f12.keep rfl, hR.f13.keep rfl, hR.f14.keep rfl, hR.f16.keep rfl, hR.b14.keep rfl, hR.c15.keepM rfl (fun h => ⟨upd_on h.1, h.2⟩)⟩⟩
              refine EachOf.cons [] rfl (by kernel_rfl) ?_ ?_
              · rintro L A W ⟨v, g, rfl, hR⟩ hi hw K hK
                go_simp
                refine hK.out _ _ ?_
                exact ⟨(fun jz => if jz = 53 then .int .i64 (l : Int) else v jz), g, rfl, ⟨hR.st, hR.f0.keep rfl, hR.f1.keep rfl, (fun _ => rfl), hR.f3.keep rfl, hR.f4.keep rfl, hR.f5.keep rfl, hR.f6.keep rfl, hR.f7.keep rfl, hR.f8.keep rfl, hR.f9.keep rfl, hR.f10.keep rfl, hR.f11.keep rfl, hR.f12.keep rfl, hR.f13.keep rfl, hR.f14.keep rfl, hR.f16.keep rfl, hR.b14.keep rfl, hR.c15.keepM rfl (fun h => ⟨upd_on h.1, h.2⟩)⟩⟩
              refine EachOf.cons [1, 2] rfl (by kernel_rfl) ?_ ?_
              · rintro L A W ⟨v, g, rfl, hR⟩ hi hw K hK
                have e1 := hR.f1 (hw 1 (by simp))
                have e2 := hR.f2 (hw 2 (by simp))
                simp only [e1, e2]
                clear e1 e2
                go_simp
                refine hK.out _ _ ?_
                exact ⟨(fun jz => if jz = 52 then .slice (some ⟨b, 0, none⟩) i Cb else if jz = 53 then .int .i64 (l : Int) else if jz = 54 then .pointer (some ⟨b, l, none⟩) else v jz), g, rfl, ⟨hR.st, hR.f0.keep rfl, (fun _ => rfl), (fun _ => rfl), (fun _ => rfl), hR.f4.keep rfl, hR.f5.keep rfl, hR.f6.keep rfl, hR.f7.keep rfl, hR.f8.keep rfl, hR.f9.keep rfl, hR.f10.keep rfl, hR.f11.keep rfl, hR.f12.keep rfl, hR.f13.keep rfl, hR.f14.keep rfl, hR.f16.keep rfl, hR.b14.keep rfl, hR.c15.keepM rfl (fun h => ⟨upd_on h.1, h.2⟩)⟩⟩
              refine EachOf.cons [3] rfl (by kernel_rfl) ?_ ?_
              · rintro L A W ⟨v, g, rfl, hR⟩ hi hw K hK
                have e3 := hR.f3 (hw 3 (by simp))
                simp only [e3]
                clear e3
                have q0 := (hR.st.cell (p := ⟨b, l, none⟩) LI.out.2).trans LI.out.1
                go_simp
                refine hK.out _ _ ?_
                exact ⟨(fun jz => if jz = 54 then .pointer (some ⟨b, l, none⟩) else if jz = 55 then .slice (some ⟨G l, 0, none⟩) (n + 1) (C l) else v jz), g, rfl, ⟨hR.st, hR.f0.keep rfl, hR.f1.keep rfl, hR.f2.keep rfl, (fun _ => rfl), (fun _ => rfl), hR.f5.keep rfl, hR.f6.keep rfl, hR.f7.keep rfl, hR.f8.keep rfl, hR.f9.keep rfl, hR.f10.keep rfl, hR.f11.keep rfl, hR.f12.keep rfl, hR.f13.keep rfl, hR.f14.keep rfl, hR.f16.keep rfl, hR.b14.keep rfl, hR.c15.keepM rfl (fun h => ⟨upd_on h.1, h.2⟩)⟩⟩
              refine EachOf.cons [] rfl (by kernel_rfl) ?_ ?_
              · rintro L A W ⟨v, g, rfl, hR⟩ hi hw K hK
                go_simp
                refine hK.out _ _ ?_
                exact ⟨(fun jz => if jz = 56 then .int .i64 (n : Int) else v jz), g, rfl, ⟨hR.st, hR.f0.keep rfl, hR.f1.keep rfl, hR.f2.keep rfl, hR.f3.keep rfl, hR.f4.keep rfl, (fun _ => rfl), hR.f6.keep rfl, hR.f7.keep rfl, hR.f8.keep rfl, hR.f9.keep rfl, hR.f10.keep rfl, hR.f11.keep rfl, hR.f12.keep rfl, hR.f13.keep rfl, hR.f14.keep rfl, hR.f16.keep rfl, hR.b14.keep rfl, hR.c15.keepM rfl (fun h => ⟨upd_on h.1, h.2⟩)⟩⟩
              refine EachOf.cons [4, 5] rfl (by kernel_rfl) ?_ ?_
              · rintro L A W ⟨v, g, rfl, hR⟩ hi hw K hK
                have e4 := hR.f4 (hw 4 (by simp))
                have e5 := hR.f5 (hw 5 (by simp))
                simp only [e4, e5]
                clear e4 e5
                go_simp
                refine hK.out _ _ ?_
                exact ⟨(fun jz => if jz = 55 then .slice (some ⟨G l, 0, none⟩) (n + 1) (C l) else if jz = 56 then .int .i64 (n : Int) else if jz = 57 then .pointer (some ⟨G l, n, none⟩) else v jz), g, rfl, ⟨hR.st, hR.f0.keep rfl, hR.f1.keep rfl, hR.f2.keep rfl, hR.f3.keep rfl, (fun _ => rfl), (fun _ => rfl), (fun _ => rfl), hR.f7.keep rfl, hR.f8.keep rfl, hR.f9.keep rfl, hR.f10.keep rfl, hR.f11.keep rfl, hR.f12.keep rfl, hR.f13.keep rfl, hR.f14.keep rfl, hR.f16.keep rfl, hR.b14.keep rfl, hR.c15.keepM rfl (fun h => ⟨upd_on h.1, h.2⟩)⟩⟩
              refine EachOf.cons [6] rfl (by kernel_rfl) ?_ ?_
              · rintro L A W ⟨v, g, rfl, hR⟩ hi hw K hK
                have e6 := hR.f6 (hw 6 (by simp))
                simp only [e6]
                clear e6
                have q0 := (hR.st.cell (p := ⟨G l, n, none⟩) LA.out.2).trans LA.out.1
                go_simp
                refine hK.out _ _ ?_
                exact ⟨(fun jz => if jz = 57 then .pointer (some ⟨G l, n, none⟩) else if jz = 58 then .int .i64 va else v jz), g, rfl, ⟨hR.st, hR.f0.keep rfl, hR.f1.keep rfl, hR.f2.keep rfl, hR.f3.keep rfl, hR.f4.keep rfl, hR.f5.keep rfl, (fun _ => rfl), (fun _ => rfl), hR.f8.keep rfl, hR.f9.keep rfl, hR.f10.keep rfl, hR.f11.keep rfl, hR.f12.keep rfl, hR.f13.keep rfl, hR.f14.keep rfl, hR.f16.keep rfl, hR.b14.keep rfl, hR.c15.keepM rfl (fun h => ⟨upd_on h.1, h.2⟩)⟩⟩
              refine EachOf.cons [] rfl (by kernel_rfl) ?_ ?_
              · rintro L A W ⟨v, g, rfl, hR⟩ hi hw K hK
                go_simp
                refine hK.out _ _ ?_
                exact ⟨(fun jz => if jz = 59 then .pointer (some ⟨fb, 2, none⟩) else v jz), g, rfl, ⟨hR.st, hR.f0.keep rfl, hR.f1.keep rfl, hR.f2.keep rfl, hR.f3.keep rfl, hR.f4.keep rfl, hR.f5.keep rfl, hR.f6.keep rfl, hR.f7.keep rfl, (fun _ => rfl), hR.f9.keep rfl, hR.f10.keep rfl, hR.f11.keep rfl, hR.f12.keep rfl, hR.f13.keep rfl, hR.f14.keep rfl, hR.f16.keep rfl, hR.b14.keep rfl, hR.c15.keepM rfl (fun h => ⟨upd_on h.1, h.2⟩)⟩⟩
              refine EachOf.cons [8] rfl (by kernel_rfl) ?_ ?_
              · rintro L A W ⟨v, g, rfl, hR⟩ hi hw K hK
                have e8 := hR.f8 (hw 8 (by simp))
                simp only [e8]
                clear e8
                have q0 := (hR.st.cell (p := ⟨fb, 2, none⟩) LL.out.2).trans LL.out.1
                go_simp
                refine hK.out _ _ ?_
                exact ⟨(fun jz => if jz = 59 then .pointer (some ⟨fb, 2, none⟩) else if jz = 60 then .int .i64 D else v jz), g, rfl, ⟨hR.st, hR.f0.keep rfl, hR.f1.keep rfl, hR.f2.keep rfl, hR.f3.keep rfl, hR.f4.keep rfl, hR.f5.keep rfl, hR.f6.keep rfl, hR.f7.keep rfl, (fun _ => rfl), (fun _ => rfl), hR.f10.keep rfl, hR.f11.keep rfl, hR.f12.keep rfl, hR.f13.keep rfl, hR.f14.keep rfl, hR.f16.keep rfl, hR.b14.keep rfl, hR.c15.keepM rfl (fun h => ⟨upd_on h.1, h.2⟩)⟩⟩
              refine EachOf.cons [7, 9] rfl (by kernel_rfl) ?_ ?_
              · rintro L A W ⟨v, g, rfl, hR⟩ hi hw K hK
                have e7 := hR.f7 (hw 7 (by simp))
                have e9 := hR.f9 (hw 9 (by simp))
                simp only [e7, e9]
                clear e7 e9
                go_simp
                go_at_call 54
                (with_reducible refine ((CK _).out).mono ?_)
                rintro e w2 ⟨rfl, hb⟩
                go_simp
                refine hK.out _ _ ?_
                exact ⟨(fun jz => if jz = 58 then .int .i64 va else if jz = 60 then .int .i64 D else if jz = 61 then .tuple #[.agg #[.int .i64 xn, .int .i64 xd], .int .i64 xe] else v jz), g, rfl, ⟨below_on hR.st hb, hR.f0.keep rfl, hR.f1.keep rfl, hR.f2.keep rfl, hR.f3.keep rfl, hR.f4.keep rfl, hR.f5.keep rfl, hR.f6.keep rfl, (fun _ => rfl), hR.f8.keep rfl, (fun _ => rfl), (fun _ => rfl), hR.f11.keep rfl, hR.f12.keep rfl, hR.f13.keep rfl, hR.f14.keep rfl, hR.f16.keep rfl, hR.b14.keepM rfl (fun h => h.on hb), hR.c15.keepM rfl (fun h => ⟨upd_on h.1, h.2.on hb⟩)⟩⟩
              refine EachOf.cons [10] rfl (by kernel_rfl) ?_ ?_
              · rintro L A W ⟨v, g, rfl, hR⟩ hi hw K hK
                have e10 := hR.f10 (hw 10 (by simp))
                simp only [e10]
                clear e10
                go_simp
                refine hK.out _ _ ?_
                exact ⟨(fun jz => if jz = 61 then .tuple #[.agg #[.int .i64 xn, .int .i64 xd], .int .i64 xe] else if jz = 50 then .tuple #[.agg #[.int .i64 xn, .int .i64 xd], .int .i64 xe] else v jz), g, rfl, ⟨hR.st, hR.f0.keep rfl, hR.f1.keep rfl, hR.f2.keep rfl, hR.f3.keep rfl, hR.f4.keep rfl, hR.f5.keep rfl, hR.f6.keep rfl, hR.f7.keep rfl, hR.f8.keep rfl, hR.f9.keep rfl, (fun _ => rfl), (fun _ => rfl), hR.f12.keep rfl, hR.f13.keep rfl, hR.f14.keep rfl, hR.f16.keep rfl, hR.b14.keep rfl, hR.c15.keepM rfl (fun h => ⟨upd_on h.1, h.2⟩)⟩⟩
              refine EachOf.cons [11] rfl (by kernel_rfl) ?_ ?_
              · rintro L A W ⟨v, g, rfl, hR⟩ hi hw K hK
                have e11 := hR.f11 (hw 11 (by simp))
                simp only [e11]
                clear e11
                go_simp
                refine hK.out _ _ ?_
                exact ⟨(fun jz => if jz = 50 then .tuple #[.agg #[.int .i64 xn, .int .i64 xd], .int .i64 xe] else if jz = 62 then .agg #[.int .i64 xn, .int .i64 xd] else v jz), g, rfl, ⟨hR.st, hR.f0.keep rfl, hR.f1.keep rfl, hR.f2.keep rfl, hR.f3.keep rfl, hR.f4.keep rfl, hR.f5.keep rfl, hR.f6.keep rfl, hR.f7.keep rfl, hR.f8.keep rfl, hR.f9.keep rfl, hR.f10.keep rfl, (fun _ => rfl), (fun _ => rfl), hR.f13.keep rfl, hR.f14.keep rfl, hR.f16.keep rfl, hR.b14.keep rfl, hR.c15.keepM rfl (fun h => ⟨upd_on h.1, h.2⟩)⟩⟩
              refine EachOf.cons [11] rfl (by kernel_rfl) ?_ ?_
              · rintro L A W ⟨v, g, rfl, hR⟩ hi hw K hK
                have e11 := hR.f11 (hw 11 (by simp))
                simp only [e11]
                clear e11
                go_simp
                refine hK.out _ _ ?_
                exact ⟨(fun jz => if jz = 50 then .tuple #[.agg #[.int .i64 xn, .int .i64 xd], .int .i64 xe] else if jz = 63 then .int .i64 xe else v jz), g, rfl, ⟨hR.st, hR.f0.keep rfl, hR.f1.keep rfl, hR.f2.keep rfl, hR.f3.keep rfl, hR.f4.keep rfl, hR.f5.keep rfl, hR.f6.keep rfl, hR.f7.keep rfl, hR.f8.keep rfl, hR.f9.keep rfl, hR.f10.keep rfl, (fun _ => rfl), hR.f12.keep rfl, (fun _ => rfl), hR.f14.keep rfl, hR.f16.keep rfl, hR.b14.keep rfl, hR.c15.keepM rfl (fun h => ⟨upd_on h.1, h.2⟩)⟩⟩
              refine EachOf.cons [] rfl (by kernel_rfl) ?_ ?_
              · rintro L A W ⟨v, g, rfl, hR⟩ hi hw K hK
                have hz := hR.st.size
                go_simp
                refine hK.out _ _ ?_
                have hb : Below W.heap.size W (W.alloc (Obj.cells #[Value.int IntKind.i64 0, Value.int IntKind.i64 0] 45)) := (Below.refl _ _).alloc (Nat.le_refl _) _
                exact ⟨(fun jz => if jz = 11 then .pointer (some ⟨W.heap.size, 0, none⟩) else v jz), (fun jz => if jz = 14 then W.heap.size else g jz), rfl, ⟨below_on hR.st hb, hR.f0.keep rfl, hR.f1.keep rfl, hR.f2.keep rfl, hR.f3.keep rfl, hR.f4.keep rfl, hR.f5.keep rfl, hR.f6.keep rfl, hR.f7.keep rfl, hR.f8.keep rfl, hR.f9.keep rfl, hR.f10.keep rfl, hR.f11.keep rfl, hR.f12.keep rfl, hR.f13.keep rfl, (fun _ => rfl), hR.f16.keep rfl, (fun _ => Own.new _ _ _ _ hz), (fun h => absurd ((hR.c15 (upd_back h rfl)).1) (by simp [hi]))⟩⟩
              refine EachOf.cons [14, 12] rfl (by kernel_rfl) ?_ ?_
              · rintro L A W ⟨v, g, rfl, hR⟩ hi hw K hK
                have e14 := hR.f14 (hw 14 (by simp))
                have e12 := hR.f12 (hw 12 (by simp))
                simp only [e14, e12]
                clear e14 e12
                have o2 := hR.b14 (hw 14 (by simp))
                have o1 := o2.1
                have HO := Lib.hid o2
                clear o2
                obtain ⟨_, ⟨u5, v5, l5, p5, q5⟩, r5, s5⟩ := HO.out
                go_simp
                have o2 := HO.out
                refine hK.out _ _ ?_
                exact ⟨(fun jz => if jz = 11 then .pointer (some ⟨g 14, 0, none⟩) else if jz = 62 then .agg #[.int .i64 xn, .int .i64 xd] else v jz), g, rfl, ⟨(hR.st.setCell (by simpa using o1) _).setCell (by simpa using o1) _, hR.f0.keep rfl, hR.f1.keep rfl, hR.f2.keep rfl, hR.f3.keep rfl, hR.f4.keep rfl, hR.f5.keep rfl, hR.f6.keep rfl, hR.f7.keep rfl, hR.f8.keep rfl, hR.f9.keep rfl, hR.f10.keep rfl, hR.f11.keep rfl, (fun _ => rfl), hR.f13.keep rfl, (fun _ => rfl), hR.f16.keep rfl, hR.b14.keepM rfl (fun h => h.set), (fun _ => ⟨upd_on (hw 14 (by simp)), o2.setw⟩)⟩⟩
              refine EachOf.cons [13] rfl (by kernel_rfl) ?_ ?_
              · rintro L A W ⟨v, g, rfl, hR⟩ hi hw K hK
                have e13 := hR.f13 (hw 13 (by simp))
                simp only [e13]
                clear e13
                go_simp
                refine hK.out _ _ ?_
                exact ⟨(fun jz => if jz = 63 then .int .i64 xe else if jz = 12 then .int .i64 xe else v jz), g, rfl, ⟨hR.st, hR.f0.keep rfl, hR.f1.keep rfl, hR.f2.keep rfl, hR.f3.keep rfl, hR.f4.keep rfl, hR.f5.keep rfl, hR.f6.keep rfl, hR.f7.keep rfl, hR.f8.keep rfl, hR.f9.keep rfl, hR.f10.keep rfl, hR.f11.keep rfl, hR.f12.keep rfl, (fun _ => rfl), hR.f14.keep rfl, (fun _ => rfl), hR.b14.keep rfl, hR.c15.keepM rfl (fun h => ⟨upd_on h.1, h.2⟩)⟩⟩
              exact EachOf.nil
            rintro L A W ⟨v, g, rfl, hR⟩ hL
            have e12 := hR.f14 (hL 14 (by simp))
            have HC := Lib.hid (hR.c15 (hL 15 (by simp))).2
            have HT := Lib.hid hR.st
            obtain ⟨tb, htb⟩ : ∃ x, g 14 = x := ⟨_, rfl⟩
            rw [htb] at e12 HC
            simp only [e12]
            clear e12 htb hR hL LM LI LA LL CK
            obtain ⟨_, s0, s1⟩ := HC.out
            have HK5 := Lib.hid (below_on T.out.2 HT.out)
            have HB5 := Lib.hid (HB2.out.trans (HK5.out.mono HB2.out.size))
            have hb8 : Below W.heap.size W (W.alloc (Obj.cells #[Value.int IntKind.i64 xn, Value.int IntKind.i64 xd] 45)) := (Below.refl _ _).alloc (Nat.le_refl _) _
            have O8 := Lib.hid (own_only (own_only T.out.1 (Only.of_below (S := fun _ => False) HT.out) (fun _ _ q => q)) (Only.of_below (S := fun _ => False) hb8) (fun _ _ q => q))
            have HBA := Lib.hid hb8
            have B8 := Lib.hid (below_on HB5.out hb8)
            have N8 := Lib.hid (two_newsG (row2 W (.int .i64 xn) (.int .i64 xd) 45))
            clear hb8
            go_wp2_with (at_builtin; refine wpList_append_own _ rfl _ _ 35 rfl W3.heap.size 45 i0 (Value.agg #[Value.int IntKind.i64 0, Value.int IntKind.i64 0]) 2 16 Try.underlying35 hi0 hz0 hz1 hz2 rfl (by decide) _ _ _ rfl O8.out ⟨W.heap.size, 0, none⟩ 1 1 [.int .i64 xn, .int .i64 xd] rfl rfl N8.out (by intro u hu; simp at hu; rcases hu with rfl | rfl <;> rfl) (by unfold maxLen; omega) (by omega) (Nat.le_trans HK5.out.size HBA.out.size) ?_; intro v' w9 hown hgrow _)
            have T9 : Hid (w9.ownsRow W3.heap.size 45 2 v' (l + 1) (celG (fun l => shF (E l n) D) (l + 1)) ∧ Below W3.heap.size W3 w9) :=
              ⟨by rw [celG_succ, HX.out]; exact hown, (below_on HK5.out HBA.out).trans ((grown_only (Below.refl _ _) hgrow).below (Nat.le_trans HK5.out.size HBA.out.size) (fun q hq => by exact (O8.out.lt q hq).1))⟩
            clear hown hgrow O8 B8 N8 s0 s1 HC HT HK5 HB5 HBA T HX
            go_roundg (n - (l + 1))
            case measure => omega
            case rel => exact ⟨l + 1, rfl, rfl, by omega, T9⟩
          · have e : l = n := by omega
            subst e
            obtain ⟨oa, oc, hov⟩ := own_form T.out.1
            subst hov
            go_wp2_with fail
            go_returns
            exact ⟨HB2.out.trans (T.out.2.mono HB2.out.size), k, p, E, D, HJ.out.fin.1, .inr (.inr ⟨HP.out, HK.out, ⟨HJ.out.el.nz, HSM.out.1, fun l hl => HSM.out.2 l _ (by have := HK.out; omega) (by omega)⟩, _, rfl, own_base T.out.1 HB2.out.size⟩)⟩

end Go.Proofs.Ytjggnmbdgagkoaa
