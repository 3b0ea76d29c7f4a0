/- Layer 4: the reference's Rank, Det, Independent. -/
import Derived.Test.YtjggnmbdgagkoaaLREl
import Derived.Test.YtjggnmbdgagkoaaLSwp
namespace Go.Proofs.Ytjggnmbdgagkoaa
set_option linter.unusedVariables false
open Go.RowKit Go.Shelf

theorem small_cB {R n : Nat} {M : Nat → Nat → Int} (hZ : ∀ i j, i < R → j < n → -32 ≤ M i j ∧ M i j ≤ 32) : ∀ i j, i < R → j < n → - cB n j ≤ M i j ∧ M i j ≤ cB n j := fun i j hi hj => by
  unfold cB
  rw [if_neg (by omega)]
  exact hZ i j hi hj

set_option maxRecDepth 100000 in
set_option maxHeartbeats 4000000 in
theorem refRank_any (mb mo mc R n : Nat) (Ga Oa Ka : Nat → Nat) (M : Nat → Nat → Int) (w : World) (hM : Mat w mb mo R n Ga Oa Ka M) (hR0 : 0 < R) (hR13 : R ≤ 13) (hn0 : 0 < n) (hn13 : n ≤ 13) (r6 : R ≤ 6 ∨ n ≤ 6) (hZ : ∀ i j, i < R → j < n → -32 ≤ M i j ∧ M i j ≤ 32) :
    Calls Try.prog 17 #[.slice (some ⟨mb, mo, none⟩) R mc] w fun e w' => Below w.heap.size w w' ∧ ∃ k p E D, FinW R n M k p E D ∧ e = .returned (.int .i64 (k : Nat)) := by
  have CE := Lib.hid (refElim_any mb mo mc R n n n Ga Oa Ka M w hM hR0 hR13 hn0 hn13 (Nat.le_refl _) r6 (small_cB hZ))
  have p0 := hM.top 0 hR0
  rw [Nat.add_zero] at p0
  clear hM hZ
  go_enter Try.func17, Try.ntmps17
  go_wp2_with fail
  (with_reducible refine ((CE.out).mono ?_))
  rintro e w1 ⟨hb, b, Cb, G, C, U, E, pv, k, p, D, od, rfl, hCb, hG, hO, hI⟩
  have HI := Lib.hid hI.fin.1
  have HB := Lib.hid hb
  obtain ⟨pa, pc, hpv⟩ := own_form hO
  subst hpv
  clear CE hb hI hG hO p0
  have hfl : ∀ w : World, (Instr.field 72 (.agg #[.slice (some ⟨b, 0, none⟩) R Cb, .slice pa k pc, .int .i64 D, .bool od]) 1).run Try.prog w = .ok (.slice pa k pc) w := fun _ => by kernel_rfl
  go_wp2_with fail
  go_ret
  exact ⟨HB.out, k, p, E, D, HI.out, rfl⟩

/-- What the reference's Det returns. -/
def RDetP (R : Nat) (M : Nat → Nat → Int) (v : Int) : Prop := ∃ k p E D, FinW R R M k p E D ∧ v = if k < R then 0 else detN R (fun l i => M i (p l))
set_option maxRecDepth 100000 in
set_option maxHeartbeats 8000000 in
theorem refDet_any (mb mo mc R : Nat) (Ga Oa Ka : Nat → Nat) (M : Nat → Nat → Int) (w : World) (hM : Mat w mb mo R R Ga Oa Ka M) (hR0 : 0 < R) (hR6 : R ≤ 6) (hZ : ∀ i j, i < R → j < R → -32 ≤ M i j ∧ M i j ≤ 32) :
    Calls Try.prog 20 #[.slice (some ⟨mb, mo, none⟩) R mc] w fun e w' => Below w.heap.size w w' ∧ ∃ v, e = .returned (.int .i64 v) ∧ RDetP R M v := by
  have CE := Lib.hid (refElim_any mb mo mc R R R R Ga Oa Ka M w hM hR0 (by omega) hR0 (by omega) (Nat.le_refl _) (.inl hR6) (small_cB hZ))
  clear hM hZ
  go_enter Try.func20, Try.ntmps20
  go_wp2_with fail
  (with_reducible refine ((CE.out).mono ?_))
  rintro e w1 ⟨hb, b, Cb, G, C, U, E, pv, k, p, D, od, rfl, hCb, hG, hO, hI⟩
  have HI := Lib.hid hI
  have kR := hI.kR
  have hsm := hI.small.1
  have HB := Lib.hid hb
  obtain ⟨pa, pc, hpv⟩ := own_form hO
  subst hpv
  clear CE hb hI hG hO
  have hb1 : Below w1.heap.size w1 (w1.alloc (Obj.cells #[Value.slice (some ⟨b, 0, none⟩) R Cb, Value.slice pa k pc, Value.int .i64 D, Value.bool od] 72)) := (Below.refl _ _).alloc (Nat.le_refl _) _
  have x1 : (w1.alloc (Obj.cells #[Value.slice (some ⟨b, 0, none⟩) R Cb, Value.slice pa k pc, Value.int .i64 D, Value.bool od] 72)).cell? ⟨w1.heap.size, 1, none⟩ = some (.slice pa k pc) := by simp [go_sem]
  have x2 : (w1.alloc (Obj.cells #[Value.slice (some ⟨b, 0, none⟩) R Cb, Value.slice pa k pc, Value.int .i64 D, Value.bool od] 72)).cell? ⟨w1.heap.size, 2, none⟩ = some (.int .i64 D) := by simp [go_sem]
  have x3 : (w1.alloc (Obj.cells #[Value.slice (some ⟨b, 0, none⟩) R Cb, Value.slice pa k pc, Value.int .i64 D, Value.bool od] 72)).cell? ⟨w1.heap.size, 3, none⟩ = some (.bool od) := by simp [go_sem]
  have HB1 := Lib.hid (below_on HB.out hb1)
  go_upto_region 2 with fail
  obtain ⟨fb, hfb⟩ : ∃ x, x = w1.heap.size := ⟨_, rfl⟩
  rw [← hfb] at x1 x2 x3
  rw [← hfb]
  generalize w1.alloc (Obj.cells #[Value.slice (some ⟨b, 0, none⟩) R Cb, Value.slice pa k pc, Value.int .i64 D, Value.bool od] 72) = W1 at *
  clear hb1 hfb HB
  by_cases h : k < R
  · have t1 : (k : Int) < (R : Int) := by omega
    go_wp2_with fail
    go_ret
    exact ⟨HB1.out, 0, rfl, k, p, E, D, HI.out.fin.1, (if_pos h).symm⟩
  · have t1 : ¬ (k : Int) < (R : Int) := by omega
    have e : k = R := by omega
    have HD := Lib.hid (HI.out.fin.2.1 e)
    have HE := Lib.hid e
    clear e
    cases od
    case true =>
      have wn : IntKind.i64.wrap (-D) = -D := IntWalk.i64_in _ (by omega)
      have wn2 : IntKind.i64.wrap (0 - D) = -D := by rw [IntWalk.i64_in _ (by omega)]; omega
      go_wp2_with fail
      go_ret
      exact ⟨HB1.out, -D, rfl, k, p, E, D, HI.out.fin.1, by
        rw [if_neg h]
        have := HD.out
        rw [show sO true = -1 from rfl] at this
        omega⟩
    case false =>
      go_wp2_with fail
      go_ret
      exact ⟨HB1.out, D, rfl, k, p, E, D, HI.out.fin.1, by
        rw [if_neg h]
        have := HD.out
        rw [show sO false = 1 from rfl] at this
        omega⟩
theorem DetP.ref {R n : Nat} {Z : Nat → Nat → Int} {v er v' : Int} (hn : R = n) (h : DetP R n Z v er) (h' : RDetP R Z v') : er = 0 ∧ v' = v := by
  rcases h with ⟨hne, _⟩ | ⟨_, rfl, k, p, E, D, hF, rfl⟩
  · exact absurd hn hne
  · obtain ⟨k', p', E', D', hF', rfl⟩ := h'
    obtain ⟨ek, ep⟩ := hF.w.uniq hF' (Trn.refl _ _ _) (Trn.refl _ _ _)
    subst ek
    refine ⟨rfl, ?_⟩
    by_cases g : k < R
    · rw [if_pos g, if_pos g]
    · rw [if_neg g, if_neg g]
      have e : k = R := by have := hF.kR; omega
      rw [hF.det e]
      exact det_congr R fun l hl i _ => by rw [ep l (by omega)]

set_option maxRecDepth 100000 in
set_option maxHeartbeats 16000000 in
theorem refIndep_any (mb mo mc R n : Nat) (Ga Oa Ka : Nat → Nat) (Z : Nat → Nat → Int) (k : Nat) (p : Nat → Nat) (E : Nat → Nat → Int) (D : Int) (w : World) (hM : Mat w mb mo R n Ga Oa Ka Z) (hR0 : 0 < R) (hR6 : R ≤ 6) (hmc : R ≤ mc) (hmc2 : mc ≤ 9223372036854775807) (hn0 : 0 < n) (hn12 : n ≤ 12) (hZ : ∀ i j, i < R → j < n → -32 ≤ Z i j ∧ Z i j ≤ 32) (hF : FinW n R (fun l i => Z i l) k p E D) :
    Calls Try.prog 19 #[.slice (some ⟨mb, mo, none⟩) R mc] w fun e w' => Below w.heap.size w w' ∧ ∃ v, e = .returned v ∧ w'.ownsRow w.heap.size 3 1 v k ((List.range k).map fun l => Value.int .i64 (p l)) := by
  have HM := Lib.hid hM
  have HF := Lib.hid hF
  have kn := hF.kR
  have CR := fun W i h (hi : i < R) => Lib.hid (refRank_any mb mo mc (i + 1) n Ga Oa Ka Z W h (by omega) (by omega) hn0 (by omega) (.inl (by omega)) (fun a b ha hb => hZ a b (by omega) hb))
  have HP : Hid (∀ W, Mat W mb mo R n Ga Oa Ka Z → ∀ i, i < R → Mat W mb mo (i + 1) n Ga Oa Ka Z) := fun W h i hi => ⟨h.hb, fun l hl => h.top l (by omega), fun l hl => h.row l (by omega), fun l j hl hj => h.cell l j (by omega) hj⟩
  obtain ⟨i0, hi0, hz0, hz1, hz2⟩ := info_parts (show (Try.prog.info? 3).map (fun i => (i.zero, i.size, i.bytes)) = some (some (Value.int IntKind.i64 0), 1, 8) by kernel_rfl)
  clear hM hF hZ
  go_enter Try.func19, Try.ntmps19
  go_wp2_with fail
  have S0 : Hid ((w.ownsRow w.heap.size 3 1 (.slice none 0 0) 0 ((List.range 0).map fun l => Value.int .i64 (p l)) ∧ Below w.heap.size w w) ∧ (∀ l, l < 0 → p l < 0) ∧ ∀ l, 0 ≤ l → l < k → 0 ≤ p l) := ⟨⟨World.ownsRow_nil _ _ _ _, Below.refl _ _⟩, fun l h => by omega, fun l _ _ => Nat.zero_le _⟩
  go_loopg [4, 3] R (fun g s4 s3 wx => ∃ i t : Nat, s4 = .int .i64 i ∧ g = R - i ∧ i ≤ R ∧ t ≤ k ∧ Hid ((wx.ownsRow w.heap.size 3 1 s3 t ((List.range t).map fun l => Value.int .i64 (p l)) ∧ Below w.heap.size w wx) ∧ (∀ l, l < t → p l < i) ∧ ∀ l, t ≤ l → l < k → i ≤ p l))
  case atStart => exact ⟨0, 0, rfl, rfl, Nat.zero_le _, Nat.zero_le _, S0⟩
  case round =>
    clear S0
    obtain ⟨i, t, rfl, rfl, hi, ht, S⟩ := hrel
    rename World => W1
    by_cases hlt : i < R
    · have wk : IntKind.i64.wrap ((i : Int) + 1) = ((i + 1 : Nat) : Int) := by rw [IntWalk.i64_in _ (by omega)]; omega
      obtain ⟨oa, oc, hov⟩ := own_form S.out.1.1
      subst hov
      have HM1 := Lib.hid (HM.out.on S.out.1.2)
      go_upto_if 13 with fail
      go_cut [5] (fun s5 wx => s5 = .int .i64 (t : Nat) ∧ Hid (Below W1.heap.size W1 wx))
      case first =>
        by_cases h0 : i = 0
        · have hs : t = 0 := by
            rcases Nat.lt_or_ge 0 t with g | g
            · have := S.out.2.1 0 g; omega
            · omega
          have t1 : ¬ ((0 : Int) < (i : Int)) := by omega
          subst hs
          clear h0
          go_wp2_with fail
          go_meet
          exact ⟨rfl, Below.refl _ _⟩
        · have t1 : (0 : Int) < (i : Int) := by omega
          have ci : ¬ mc < i := by omega
          have CB0 := CR W1 (i - 1) (HP.out W1 HM1.out (i - 1) (by omega)) (by omega)
          rw [show i - 1 + 1 = i by omega] at CB0
          go_wp2_with fail
          (with_reducible refine ((CB0.out).mono ?_))
          rintro e W2 ⟨hb2, k2, p2, E2, D2, hF2, rfl⟩
          have ek := rank_turned hF2 (HF.out.pre i (by omega) t ht S.out.2.1 S.out.2.2) (fun a b _ _ => rfl)
          subst ek
          have HB2 := Lib.hid hb2
          clear CB0 hF2 hb2
          go_wp2_with fail
          go_meet
          exact ⟨rfl, HB2.out⟩
      case rest =>
        obtain ⟨rfl, HB2⟩ := hcut
        rename World => W2
        have ci : ¬ mc < i + 1 := by omega
        have HM2 := Lib.hid (HM1.out.on HB2.out)
        have CB := CR W2 i (HP.out W2 HM2.out i hlt) hlt
        obtain ⟨t', ht', h1', h2'⟩ := cut_at (n := R) HF.out.up (i + 1)
        have HT := Lib.hid (And.intro h1' h2')
        clear h1' h2'
        go_wp2_with fail
        (with_reducible refine ((CB.out).mono ?_))
        rintro e W3 ⟨hb3, k2, p2, E2, D2, hF2, rfl⟩
        have ek := rank_turned hF2 (HF.out.pre (i + 1) (by omega) t' ht' HT.out.1 HT.out.2) (fun a b _ _ => rfl)
        subst ek
        have HB3 := Lib.hid (below_on HB2.out hb3)
        have HK3 := Lib.hid (below_on S.out.1.2 HB3.out)
        clear CB hF2 hb3
        by_cases hp : t < k ∧ p t = i
        · have et : k2 = t + 1 := by
            have a : t < k2 := by
              rcases Nat.lt_or_ge t k2 with g | g
              · exact g
              · have := HT.out.2 t g hp.1; omega
            rcases Nat.lt_or_ge (t + 1) k2 with g | g
            · have := HT.out.1 (t + 1) g
              have := HF.out.up t (t + 1) (by omega) (by omega)
              omega
            · omega
          subst et
          have t1 : (t : Int) < ((t + 1 : Nat) : Int) := by omega
          have t2 : (t : Int) < (t : Int) + 1 := by omega
          have t3 : decide ((t : Int) < (t : Int) + 1) = true := decide_eq_true t2
          have HP2 := Lib.hid hp
          have O : Hid ((W3.alloc (Obj.cells #[.int .i64 (i : Int)] 3)).ownsRow w.heap.size 3 1 (.slice oa t oc) t ((List.range t).map fun l => Value.int .i64 (p l))) := own_only S.out.1.1 (Only.of_below (S := fun _ => False) (HB3.out.alloc HB3.out.size _)) (fun _ _ q => q)
          have BA : Hid (Below W3.heap.size W3 (W3.alloc (Obj.cells #[.int .i64 (i : Int)] 3))) := (Below.refl _ _).alloc (Nat.le_refl _) _
          have NW : Hid (∀ j u, [Value.int .i64 (i : Int)][j]? = some u → (W3.alloc (Obj.cells #[.int .i64 (i : Int)] 3)).cell? ((⟨W3.heap.size, 0, none⟩ : Addr).add j) = some u) := one_news (by simp [go_sem])
          have hle : w.heap.size ≤ (W3.alloc (Obj.cells #[.int .i64 (i : Int)] 3)).heap.size := Nat.le_trans HK3.out.size BA.out.size
          clear hp
          go_wp2_with (at_builtin; refine wpList_append_own _ rfl _ _ 29 rfl w.heap.size 3 i0 (.int .i64 0) 1 8 Try.underlying29 hi0 hz0 hz1 hz2 rfl (by decide) _ _ _ rfl O.out ⟨W3.heap.size, 0, none⟩ 1 1 [.int .i64 (i : Int)] rfl rfl NW.out (by intro u hu; simp at hu; subst hu; rfl) (by unfold maxLen; omega) (by omega) hle ?_; intro v2 w10 hown hgrow _)
          have T : Hid ((w10.ownsRow w.heap.size 3 1 v2 (t + 1) ((List.range (t + 1)).map fun l => Value.int .i64 (p l)) ∧ Below w.heap.size w w10) ∧ (∀ l, l < t + 1 → p l < i + 1) ∧ ∀ l, t + 1 ≤ l → l < k → i + 1 ≤ p l) :=
            ⟨⟨by rw [intsC_succ t (fun l => ((p l : Nat) : Int)), show ((p t : Nat) : Int) = (i : Int) by rw [HP2.out.2]]; exact hown, below_grown (below_on HK3.out BA.out) O.out hgrow⟩, HT.out⟩
          have htk : t + 1 ≤ k := HP2.out.1
          clear hown hgrow O BA NW hle HP2 HT S
          go_roundg (R - (i + 1))
          case measure => omega
          case rel => exact ⟨i + 1, t + 1, rfl, rfl, by omega, htk, T⟩
        · have et : k2 = t := by
            rcases Nat.lt_trichotomy k2 t with g | g | g
            · have := HT.out.2 k2 (Nat.le_refl _) (by omega)
              have := S.out.2.1 k2 g
              omega
            · exact g
            · have a := HT.out.1 t g
              have b := S.out.2.2 t (Nat.le_refl _) (by omega)
              exact absurd ⟨by omega, by omega⟩ hp
          subst et
          have t1 : ¬ ((k2 : Int) < (k2 : Int)) := by omega
          have T : Hid ((W3.ownsRow w.heap.size 3 1 (.slice oa k2 oc) k2 ((List.range k2).map fun l => Value.int .i64 (p l)) ∧ Below w.heap.size w W3) ∧ (∀ l, l < k2 → p l < i + 1) ∧ ∀ l, k2 ≤ l → l < k → i + 1 ≤ p l) := ⟨⟨own_only S.out.1.1 (Only.of_below (S := fun _ => False) HB3.out) (fun _ _ q => q), HK3.out⟩, HT.out⟩
          clear hp HT S
          go_wp2_with fail
          go_roundg (R - (i + 1))
          case measure => omega
          case rel => exact ⟨i + 1, k2, rfl, rfl, by omega, ht, T⟩
    · have e : i = R := by omega
      have et : t = k := by
        rcases Nat.lt_or_ge t k with g | g
        · have := S.out.2.2 t (Nat.le_refl _) g
          have := HF.out.lt t g
          omega
        · omega
      subst et
      obtain ⟨oa, oc, hov⟩ := own_form S.out.1.1
      subst hov
      go_wp2_with fail
      go_ret
      exact ⟨S.out.1.2, _, rfl, S.out.1.1⟩

end Go.Proofs.Ytjggnmbdgagkoaa
