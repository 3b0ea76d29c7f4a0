/- Layer 5: smallRights, sharesOf. Layer 5: sharesOf. Layer 5: the theory of duals. Layer 5: Dual. -/
import Derived.Test.YtdbmlkkpffoadaaPSums
namespace Go.Proofs.Ytdbmlkkpffoadaa
set_option linter.unusedVariables false
open Go.RowKit Go.Shelf

set_option maxRecDepth 100000 in
set_option maxHeartbeats 8000000 in
theorem smallRights_any (p : PgD) (hv : p.Ok) (w : World) (hp : p.At w) (v : Bool) (hvv : v = true ↔ ∀ i, i < p.m → -1048576 ≤ p.Rt i ∧ p.Rt i ≤ 1048576) :
    Calls Try.prog 28 #[p.val] w fun e w' => e = .returned (.bool v) ∧ Below w.heap.size w w' := by
  unfold PgD.val
  have hb1 : Below w.heap.size w (w.alloc (Obj.cells #[Value.slice p.ca p.n p.cc, .slice p.ra p.m p.rc] 25)) := (Below.refl _ _).alloc (Nat.le_refl _) _
  obtain ⟨w1, hw1⟩ : ∃ W, W = w.alloc (Obj.cells #[Value.slice p.ca p.n p.cc, .slice p.ra p.m p.rc] 25) := ⟨_, rfl⟩
  obtain ⟨xb, hxb⟩ : ∃ x, x = w.heap.size := ⟨_, rfl⟩
  have hB : Blk w1 xb (.slice p.ca p.n p.cc) (.slice p.ra p.m p.rc) := by rw [hw1, hxb]; exact Blk.new _ _ _ _
  rw [← hw1] at hb1
  have HP := Lib.hid hp
  have HV := Lib.hid hv
  have HVV := Lib.hid hvv
  have hm2 := hv.m2
  have S0 : Hid (Below w.heap.size w w1 ∧ ∀ l, l < 0 → -1048576 ≤ p.Rt l ∧ p.Rt l ≤ 1048576) := ⟨hb1, fun l h => by omega⟩
  have q1 := hB.2.2
  clear hb1 hp hv hvv hB
  go_enter Try.func28, Try.ntmps28
  go_upto_region 1 with fail
  rw [← hxb, ← hw1]
  clear hxb hw1
  go_wp2_with fail
  clear q1
  go_loopg [8] p.m (fun g s8 wx => ∃ i : Nat, s8 = .int .i64 i ∧ g = p.m - i ∧ i ≤ p.m ∧ Hid (Below w.heap.size w wx ∧ ∀ l, l < i → -1048576 ≤ p.Rt l ∧ p.Rt l ≤ 1048576))
  case atStart => exact ⟨0, rfl, rfl, Nat.zero_le _, S0⟩
  case round =>
    clear S0
    obtain ⟨i, rfl, rfl, hi, S⟩ := hrel
    rename World => W1
    by_cases hlt : i < p.m
    · have wk : IntKind.i64.wrap ((i : Int) + 1) = ((i + 1 : Nat) : Int) := by rw [IntWalk.i64_in _ (by omega)]; omega
      have hat := HP.out.on S.out.1
      obtain ⟨gr, gro, er, hgr, hrow⟩ := hat.rows (by omega)
      have hri := hrow i hlt
      rw [er]
      have q1 := hri.1
      have q2 := hri.2.1
      have q3 := hri.2.2
      have hrr := HV.out.r i hlt
      obtain ⟨rt, hrt⟩ : ∃ x, p.Rt i = x := ⟨_, rfl⟩
      rw [hrt] at q3 hrr
      have HRT := Lib.hid hrt
      clear hrow hri hat hrt
      go_upto_region 4 with fail
      obtain ⟨rb, hrb⟩ : ∃ x, x = W1.heap.size := ⟨_, rfl⟩
      obtain ⟨W2, hW2⟩ : ∃ V, V = W1.alloc (Obj.cells #[Value.slice (p.Ca i) (p.Ln i) (p.Kc i), Value.int IntKind.i64 (p.Kd i), Value.int IntKind.i64 rt] 50) := ⟨_, rfl⟩
      rw [← hrb, ← hW2]
      have hb2 : Below W1.heap.size W1 W2 := by rw [hW2]; exact (Below.refl _ _).alloc (Nat.le_refl _) _
      have k1 : W2.cell? ⟨rb, 2, none⟩ = some (.int .i64 rt) := by rw [hW2, hrb]; simp [go_sem]
      have HB2 := Lib.hid (below_on S.out.1 hb2)
      have HSL := Lib.hid S.out.2
      clear hb2 hW2 hrb q1 q2 q3 S
      have hb4 : Below W2.heap.size W2 (W2.alloc (Obj.cells #[Value.int IntKind.i64 rt] 3)) := (Below.refl _ _).alloc (Nat.le_refl _) _
      have C4 := Lib.hid (pwithin_one rt 1048576 (W2.alloc (Obj.cells #[Value.int IntKind.i64 rt] 3)) (by omega) (by omega) W2.heap.size (by simp) (by simp [go_sem]))
      have HB4 := Lib.hid (below_on HB2.out hb4)
      clear hb4
      obtain ⟨t, ht⟩ : ∃ t, wB 1 (fun _ => rt) 1048576 = t := ⟨_, rfl⟩
      rw [ht] at C4
      have HT : Hid (t = true ↔ -1048576 ≤ rt ∧ rt ≤ 1048576) := by
        show _ ↔ _
        rw [← ht, wB_true]
        exact ⟨fun h => h 0 (by omega), fun h _ _ => h⟩
      clear ht
      go_wp2_with fail
      (with_reducible refine ((C4.out).mono ?_))
      rintro e w5 ⟨rfl, hb5⟩
      have HB5 := Lib.hid (below_on HB4.out hb5)
      clear hb5 C4 k1
      cases t
      · have HD : Hid (v = false) := by
          cases v
          · rfl
          · have := HVV.out.1 rfl i hlt
            rw [HRT.out] at this
            have := HT.out.2 this
            cases this
        go_wp2_with fail
        go_ret
        exact ⟨by rw [HD.out]; rfl, HB5.out⟩
      · have T : Hid (Below w.heap.size w w5 ∧ ∀ l, l < i + 1 → -1048576 ≤ p.Rt l ∧ p.Rt l ≤ 1048576) := ⟨HB5.out, fun l hl => by
          by_cases e : l = i
          · rw [e, HRT.out]; exact HT.out.1 rfl
          · exact HSL.out l (by omega)⟩
        go_wp2_with fail
        rw [← er]
        go_roundg (p.m - (i + 1))
        case measure => omega
        case rel => exact ⟨i + 1, rfl, rfl, by omega, T⟩
    · have e : i = p.m := by omega
      subst e
      go_wp2_with fail
      go_ret
      exact ⟨by rw [HVV.out.2 S.out.2]; rfl, S.out.1⟩
end Go.Proofs.Ytdbmlkkpffoadaa

namespace Go.Proofs.Ytdbmlkkpffoadaa
set_option linter.unusedVariables false
open Go.RowKit Go.Shelf

/-- The shares of the first rows: a row, a sign. -/
def shL (p : PgD) : Nat → List (Nat × Int)
  | 0 => []
  | i + 1 => (shL p i ++ if p.Kd i = 1 then [] else [(i, 1)]) ++ if p.Kd i = 2 then [] else [(i, -1)]
def shC (l : List (Nat × Int)) : List Value := l.flatMap fun s => [Value.int .i64 (s.1 : Int), .int .i64 s.2]
theorem shC_app (l : List (Nat × Int)) (i : Nat) (s : Int) : shC (l ++ [(i, s)]) = shC l ++ [Value.int .i64 (i : Int), .int .i64 s] := by unfold shC; simp
theorem shL_len (p : PgD) (i : Nat) : (shL p i).length ≤ 2 * i := by
  induction i with
  | zero => exact Nat.le_refl _
  | succ i ih =>
    unfold shL
    rw [List.length_append, List.length_append]
    have h1 : (if p.Kd i = 1 then ([] : List (Nat × Int)) else [(i, 1)]).length ≤ 1 := by split <;> simp
    have h2 : (if p.Kd i = 2 then ([] : List (Nat × Int)) else [(i, -1)]).length ≤ 1 := by split <;> simp
    omega
theorem pair_news {W : World} {b : Nat} {u v : Value} (h0 : W.cell? ⟨b, 0, none⟩ = some u) (h1 : W.cell? ⟨b, 1, none⟩ = some v) : ∀ l x, [u, v][l]? = some x → W.cell? ((⟨b, 0, none⟩ : Addr).add l) = some x := fun l x hx => by
  rw [show (⟨b, 0, none⟩ : Addr).add l = ⟨b, l, none⟩ by unfold Addr.add; split <;> simp_all]
  match l, hx with
  | 0, hx => simp at hx; rw [← hx]; exact h0
  | 1, hx => simp at hx; rw [← hx]; exact h1

set_option maxRecDepth 100000 in
set_option maxHeartbeats 8000000 in
theorem sharesOf_any (p : PgD) (hv : p.Ok) (w : World) (hp : p.At w) :
    Calls Try.prog 27 #[p.val] w fun e w' => Below w.heap.size w w' ∧ ∃ pa pc, e = .returned (.slice pa (shL p p.m).length pc) ∧ w'.ownsRow w.heap.size 63 2 (.slice pa (shL p p.m).length pc) (shL p p.m).length (shC (shL p p.m)) := by
  unfold PgD.val
  have hb1 : Below w.heap.size w (w.alloc (Obj.cells #[Value.slice p.ca p.n p.cc, .slice p.ra p.m p.rc] 25)) := (Below.refl _ _).alloc (Nat.le_refl _) _
  obtain ⟨w1, hw1⟩ : ∃ W, W = w.alloc (Obj.cells #[Value.slice p.ca p.n p.cc, .slice p.ra p.m p.rc] 25) := ⟨_, rfl⟩
  obtain ⟨xb, hxb⟩ : ∃ x, x = w.heap.size := ⟨_, rfl⟩
  have hB : Blk w1 xb (.slice p.ca p.n p.cc) (.slice p.ra p.m p.rc) := by rw [hw1, hxb]; exact Blk.new _ _ _ _
  rw [← hw1] at hb1
  have HP := Lib.hid hp
  have HV := Lib.hid hv
  have hm2 := hv.m2
  have q1 := hB.2.2
  have S0 : Hid (w1.ownsRow w.heap.size 63 2 (.slice none 0 0) (shL p 0).length (shC (shL p 0)) ∧ Below w.heap.size w w1) := ⟨⟨rfl, .inl ⟨rfl, rfl⟩⟩, hb1⟩
  clear hb1 hp hv hB
  obtain ⟨i0, hi0, hz0, hz1, hz2⟩ := info_parts (show (Try.prog.info? 63).map (fun i => (i.zero, i.size, i.bytes)) = some (some (Value.agg #[Value.int IntKind.i64 0, Value.int IntKind.i64 0]), 2, 16) by kernel_rfl)
  have HI := Lib.hid (And.intro hi0 (And.intro hz0 (And.intro hz1 hz2)))
  clear hi0 hz0 hz1 hz2
  go_enter Try.func27, Try.ntmps27
  go_upto_region 1 with fail
  rw [← hxb, ← hw1]
  clear hxb hw1
  go_wp2_with fail
  clear q1
  go_loopg [9, 3] p.m (fun g s9 s3 wx => ∃ i : Nat, s9 = .int .i64 i ∧ g = p.m - i ∧ i ≤ p.m ∧ Hid (wx.ownsRow w.heap.size 63 2 s3 (shL p i).length (shC (shL p i)) ∧ Below w.heap.size w wx))
  case atStart => exact ⟨0, rfl, rfl, Nat.zero_le _, S0⟩
  case round =>
    clear S0
    obtain ⟨i, rfl, rfl, hi, S⟩ := hrel
    rename World => W1
    obtain ⟨pa5, pc5, hpv⟩ := own_form S.out.1
    subst hpv
    by_cases hlt : i < p.m
    · have wk : IntKind.i64.wrap ((i : Int) + 1) = ((i + 1 : Nat) : Int) := by rw [IntWalk.i64_in _ (by omega)]; omega
      have hat := HP.out.on S.out.2
      obtain ⟨gr, gro, er, hgr, hrow⟩ := hat.rows (by omega)
      have hri := hrow i hlt
      rw [er]
      have q1 := hri.1
      have q2 := hri.2.1
      have q3 := hri.2.2
      have hkk := HV.out.k i hlt
      obtain ⟨kd, hkd⟩ : ∃ x, p.Kd i = x := ⟨_, rfl⟩
      rw [hkd] at q2 hkk
      have HKD := Lib.hid hkd
      clear hrow hri hat hkd
      go_upto_region 5 with fail
      obtain ⟨rb, hrb⟩ : ∃ x, x = W1.heap.size := ⟨_, rfl⟩
      obtain ⟨W2, hW2⟩ : ∃ V, V = W1.alloc (Obj.cells #[Value.slice (p.Ca i) (p.Ln i) (p.Kc i), Value.int IntKind.i64 kd, Value.int IntKind.i64 (p.Rt i)] 50) := ⟨_, rfl⟩
      rw [← hrb, ← hW2]
      have hb2 : Below W1.heap.size W1 W2 := by rw [hW2]; exact (Below.refl _ _).alloc (Nat.le_refl _) _
      have hr2 : EBlk W2 rb (.slice (p.Ca i) (p.Ln i) (p.Kc i)) (.int .i64 kd) (.int .i64 (p.Rt i)) := by
        rw [hW2, hrb]
        exact ⟨by simp, by simp [go_sem], by simp [go_sem], by simp [go_sem], by simp [go_sem], by simp [go_sem], by simp [go_sem]⟩
      have HE := Lib.hid hr2
      have HNR : Hid (¬ (Value.slice pa5 (shL p i).length pc5).ownBlock = some rb) := fun hc => by
        have := (S.out.1.lt rb hc).2
        omega
      have SS : Hid (W2.ownsRow w.heap.size 63 2 (.slice pa5 (shL p i).length pc5) (shL p i).length (shC (shL p i)) ∧ Below w.heap.size w W2) := ⟨own_only S.out.1 (Only.of_below (S := fun _ => False) hb2) (fun _ _ q => q), below_on S.out.2 hb2⟩
      clear hb2 hr2 hW2 hrb q1 q2 q3 S
      have k1 := HE.out.c1
      obtain rfl | rfl | rfl : kd = 1 ∨ kd = 2 ∨ kd = 3 := by omega
      · have hk1 := HE.out.c1
        have el : shL p (i + 1) = shL p i ++ [(i, (-1 : Int))] := by
          show (shL p i ++ if p.Kd i = 1 then [] else [(i, 1)]) ++ (if p.Kd i = 2 then [] else [(i, -1)]) = _
          rw [HKD.out, if_pos rfl, if_neg (by decide), List.append_nil]
        have HEL := Lib.hid el
        clear el
        have B5 : Hid (Below W2.heap.size W2 (W2.alloc (Obj.cells #[.int .i64 (i : Int), .int .i64 (-1)] 63))) := (Below.refl _ _).alloc (Nat.le_refl _) _
        have O5 : Hid ((W2.alloc (Obj.cells #[.int .i64 (i : Int), .int .i64 (-1)] 63)).ownsRow w.heap.size 63 2 (.slice pa5 (shL p i).length pc5) (shL p i).length (shC (shL p i))) := own_only SS.out.1 (Only.of_below (S := fun _ => False) B5.out) (fun _ _ q => q)
        have A5 : Hid (∀ l u, [Value.int .i64 (i : Int), .int .i64 (-1)][l]? = some u → (W2.alloc (Obj.cells #[.int .i64 (i : Int), .int .i64 (-1)] 63)).cell? ((⟨W2.heap.size, 0, none⟩ : Addr).add l) = some u) := pair_news (by simp [go_sem]) (by simp [go_sem])
        have D5 := Lib.hid (below_on SS.out.2 B5.out)
        have hln5 : (shL p i).length ≤ 13 := by
          have := shL_len p i
          first | omega | (rw [List.length_append]; simp; omega)
        go_upto_region 9 with (at_builtin; refine wpList_append_lies _ rfl _ _ 60 rfl w.heap.size 63 i0 (.agg #[.int .i64 0, .int .i64 0]) 2 16 Try.underlying60 HI.out.1 HI.out.2.1 HI.out.2.2.1 HI.out.2.2.2 rfl (by decide) _ _ _ rfl O5.out ⟨W2.heap.size, 0, none⟩ 1 1 [.int .i64 (i : Int), .int .i64 (-1)] rfl rfl A5.out (by intro u hu; simp at hu; rcases hu with hu | hu <;> subst hu <;> rfl) (by omega) (by unfold maxLen; omega) (by omega) D5.out.size _ rfl ?_; intro q5 cap5 W5 hown hgrow hat hqlt)
        have hA := grown_only (Below.refl _ _) hgrow
        have S5 : Hid (W5.ownsRow w.heap.size 63 2 (.slice (some ⟨q5, 0, none⟩) (shL p i ++ [(i, ((-1) : Int))]).length cap5) (shL p i ++ [(i, ((-1) : Int))]).length (shC (shL p i ++ [(i, ((-1) : Int))])) ∧ Below w.heap.size w W5) := ⟨by rw [List.length_append, shC_app]; exact hown, D5.out.trans (hA.below D5.out.size (fun c hc => (O5.out.lt c hc).1))⟩
        clear hown hgrow hat hqlt hA B5 O5 A5 D5
        clear k1 hk1
        go_wp2_with fail
        rw [← er]
        go_roundg (p.m - (i + 1))
        case measure => omega
        case rel =>
          refine ⟨i + 1, rfl, rfl, by omega, ?_⟩
          rw [HEL.out]
          have h5 := S5.out
          rw [List.length_append] at h5 ⊢
          exact h5
      · have hk1 := HE.out.c1
        have el : shL p (i + 1) = shL p i ++ [(i, (1 : Int))] := by
          show (shL p i ++ if p.Kd i = 1 then [] else [(i, 1)]) ++ (if p.Kd i = 2 then [] else [(i, -1)]) = _
          rw [HKD.out, if_neg (by decide), if_pos rfl, List.append_nil]
        have HEL := Lib.hid el
        clear el
        have B5 : Hid (Below W2.heap.size W2 (W2.alloc (Obj.cells #[.int .i64 (i : Int), .int .i64 1] 63))) := (Below.refl _ _).alloc (Nat.le_refl _) _
        have O5 : Hid ((W2.alloc (Obj.cells #[.int .i64 (i : Int), .int .i64 1] 63)).ownsRow w.heap.size 63 2 (.slice pa5 (shL p i).length pc5) (shL p i).length (shC (shL p i))) := own_only SS.out.1 (Only.of_below (S := fun _ => False) B5.out) (fun _ _ q => q)
        have A5 : Hid (∀ l u, [Value.int .i64 (i : Int), .int .i64 1][l]? = some u → (W2.alloc (Obj.cells #[.int .i64 (i : Int), .int .i64 1] 63)).cell? ((⟨W2.heap.size, 0, none⟩ : Addr).add l) = some u) := pair_news (by simp [go_sem]) (by simp [go_sem])
        have D5 := Lib.hid (below_on SS.out.2 B5.out)
        have hln5 : (shL p i).length ≤ 13 := by
          have := shL_len p i
          first | omega | (rw [List.length_append]; simp; omega)
        have E5 := Lib.hid (HE.out.on B5.out)
        clear k1
        go_upto_region 7 with (at_builtin; refine wpList_append_lies _ rfl _ _ 60 rfl w.heap.size 63 i0 (.agg #[.int .i64 0, .int .i64 0]) 2 16 Try.underlying60 HI.out.1 HI.out.2.1 HI.out.2.2.1 HI.out.2.2.2 rfl (by decide) _ _ _ rfl O5.out ⟨W2.heap.size, 0, none⟩ 1 1 [.int .i64 (i : Int), .int .i64 1] rfl rfl A5.out (by intro u hu; simp at hu; rcases hu with hu | hu <;> subst hu <;> rfl) (by omega) (by unfold maxLen; omega) (by omega) D5.out.size _ rfl ?_; intro q5 cap5 W5 hown hgrow hat hqlt)
        have hA := grown_only (Below.refl _ _) hgrow
        have S5 : Hid (W5.ownsRow w.heap.size 63 2 (.slice (some ⟨q5, 0, none⟩) (shL p i ++ [(i, (1 : Int))]).length cap5) (shL p i ++ [(i, (1 : Int))]).length (shC (shL p i ++ [(i, (1 : Int))])) ∧ Below w.heap.size w W5) := ⟨by rw [List.length_append, shC_app]; exact hown, D5.out.trans (hA.below D5.out.size (fun c hc => (O5.out.lt c hc).1))⟩
        have HE := Lib.hid (E5.out.only hA (HNR.out))
        clear hown hgrow hat hqlt hA B5 O5 A5 D5
        have k1 := HE.out.c1
        clear hk1
        go_wp2_with fail
        rw [← er]
        go_roundg (p.m - (i + 1))
        case measure => omega
        case rel =>
          refine ⟨i + 1, rfl, rfl, by omega, ?_⟩
          rw [HEL.out]
          have h5 := S5.out
          rw [List.length_append] at h5 ⊢
          exact h5
      · have hk1 := HE.out.c1
        have el : shL p (i + 1) = (shL p i ++ [(i, (1 : Int))]) ++ [(i, (-1 : Int))] := by
          show (shL p i ++ if p.Kd i = 1 then [] else [(i, 1)]) ++ (if p.Kd i = 2 then [] else [(i, -1)]) = _
          rw [HKD.out, if_neg (by decide), if_neg (by decide)]
        have HEL := Lib.hid el
        clear el
        have B5 : Hid (Below W2.heap.size W2 (W2.alloc (Obj.cells #[.int .i64 (i : Int), .int .i64 1] 63))) := (Below.refl _ _).alloc (Nat.le_refl _) _
        have O5 : Hid ((W2.alloc (Obj.cells #[.int .i64 (i : Int), .int .i64 1] 63)).ownsRow w.heap.size 63 2 (.slice pa5 (shL p i).length pc5) (shL p i).length (shC (shL p i))) := own_only SS.out.1 (Only.of_below (S := fun _ => False) B5.out) (fun _ _ q => q)
        have A5 : Hid (∀ l u, [Value.int .i64 (i : Int), .int .i64 1][l]? = some u → (W2.alloc (Obj.cells #[.int .i64 (i : Int), .int .i64 1] 63)).cell? ((⟨W2.heap.size, 0, none⟩ : Addr).add l) = some u) := pair_news (by simp [go_sem]) (by simp [go_sem])
        have D5 := Lib.hid (below_on SS.out.2 B5.out)
        have hln5 : (shL p i).length ≤ 13 := by
          have := shL_len p i
          first | omega | (rw [List.length_append]; simp; omega)
        have E5 := Lib.hid (HE.out.on B5.out)
        clear k1
        go_upto_region 7 with (at_builtin; refine wpList_append_lies _ rfl _ _ 60 rfl w.heap.size 63 i0 (.agg #[.int .i64 0, .int .i64 0]) 2 16 Try.underlying60 HI.out.1 HI.out.2.1 HI.out.2.2.1 HI.out.2.2.2 rfl (by decide) _ _ _ rfl O5.out ⟨W2.heap.size, 0, none⟩ 1 1 [.int .i64 (i : Int), .int .i64 1] rfl rfl A5.out (by intro u hu; simp at hu; rcases hu with hu | hu <;> subst hu <;> rfl) (by omega) (by unfold maxLen; omega) (by omega) D5.out.size _ rfl ?_; intro q5 cap5 W5 hown hgrow hat hqlt)
        have hA := grown_only (Below.refl _ _) hgrow
        have S5 : Hid (W5.ownsRow w.heap.size 63 2 (.slice (some ⟨q5, 0, none⟩) (shL p i ++ [(i, (1 : Int))]).length cap5) (shL p i ++ [(i, (1 : Int))]).length (shC (shL p i ++ [(i, (1 : Int))])) ∧ Below w.heap.size w W5) := ⟨by rw [List.length_append, shC_app]; exact hown, D5.out.trans (hA.below D5.out.size (fun c hc => (O5.out.lt c hc).1))⟩
        have HE := Lib.hid (E5.out.only hA (HNR.out))
        clear hown hgrow hat hqlt hA B5 O5 A5 D5
        have k1 := HE.out.c1
        clear hk1
        have S5 : Hid (W5.ownsRow w.heap.size 63 2 (.slice (some ⟨q5, 0, none⟩) (shL p i ++ [(i, (1 : Int))]).length cap5) (shL p i ++ [(i, (1 : Int))]).length (shC (shL p i ++ [(i, (1 : Int))])) ∧ Below w.heap.size w W5) := S5.out
        obtain ⟨pa6, hpa6⟩ : ∃ x, x = some (⟨q5, 0, none⟩ : Addr) := ⟨_, rfl⟩
        obtain ⟨pc6, hpc6⟩ : ∃ x, x = cap5 := ⟨_, rfl⟩
        have hll : (shL p i).length + 1 = (shL p i ++ [(i, (1 : Int))]).length := by rw [List.length_append]; rfl
        rw [← hpa6, ← hpc6] at S5 ⊢
        rw [hll]
        clear hll hpa6 hpc6
        have B6 : Hid (Below W5.heap.size W5 (W5.alloc (Obj.cells #[.int .i64 (i : Int), .int .i64 (-1)] 63))) := (Below.refl _ _).alloc (Nat.le_refl _) _
        have O6 : Hid ((W5.alloc (Obj.cells #[.int .i64 (i : Int), .int .i64 (-1)] 63)).ownsRow w.heap.size 63 2 (.slice pa6 (shL p i ++ [(i, (1 : Int))]).length pc6) (shL p i ++ [(i, (1 : Int))]).length (shC (shL p i ++ [(i, (1 : Int))]))) := own_only S5.out.1 (Only.of_below (S := fun _ => False) B6.out) (fun _ _ q => q)
        have A6 : Hid (∀ l u, [Value.int .i64 (i : Int), .int .i64 (-1)][l]? = some u → (W5.alloc (Obj.cells #[.int .i64 (i : Int), .int .i64 (-1)] 63)).cell? ((⟨W5.heap.size, 0, none⟩ : Addr).add l) = some u) := pair_news (by simp [go_sem]) (by simp [go_sem])
        have D6 := Lib.hid (below_on S5.out.2 B6.out)
        have hln6 : (shL p i ++ [(i, (1 : Int))]).length ≤ 13 := by
          have := shL_len p i
          first | omega | (rw [List.length_append]; simp; omega)
        go_upto_region 9 with (at_builtin; refine wpList_append_lies _ rfl _ _ 60 rfl w.heap.size 63 i0 (.agg #[.int .i64 0, .int .i64 0]) 2 16 Try.underlying60 HI.out.1 HI.out.2.1 HI.out.2.2.1 HI.out.2.2.2 rfl (by decide) _ _ _ rfl O6.out ⟨W5.heap.size, 0, none⟩ 1 1 [.int .i64 (i : Int), .int .i64 (-1)] rfl rfl A6.out (by intro u hu; simp at hu; rcases hu with hu | hu <;> subst hu <;> rfl) (by omega) (by unfold maxLen; omega) (by omega) D6.out.size _ rfl ?_; intro q6 cap6 W6 hown hgrow hat hqlt)
        have hA := grown_only (Below.refl _ _) hgrow
        have S6 : Hid (W6.ownsRow w.heap.size 63 2 (.slice (some ⟨q6, 0, none⟩) (shL p i ++ [(i, (1 : Int))] ++ [(i, ((-1) : Int))]).length cap6) (shL p i ++ [(i, (1 : Int))] ++ [(i, ((-1) : Int))]).length (shC (shL p i ++ [(i, (1 : Int))] ++ [(i, ((-1) : Int))])) ∧ Below w.heap.size w W6) := ⟨by rw [List.length_append, shC_app]; exact hown, D6.out.trans (hA.below D6.out.size (fun c hc => (O6.out.lt c hc).1))⟩
        clear hown hgrow hat hqlt hA B6 O6 A6 D6
        clear k1
        go_wp2_with fail
        rw [← er]
        go_roundg (p.m - (i + 1))
        case measure => omega
        case rel =>
          refine ⟨i + 1, rfl, rfl, by omega, ?_⟩
          rw [HEL.out]
          have h5 := S6.out
          have hl2 : (shL p i ++ [(i, (1 : Int))] ++ [(i, ((-1) : Int))]).length = (shL p i).length + 1 + 1 := by simp
          rw [hl2] at h5 ⊢
          exact h5
    · have e : i = p.m := by omega
      subst e
      go_wp2_with fail
      go_ret
      exact ⟨S.out.2, pa5, pc5, rfl, S.out.1⟩
end Go.Proofs.Ytdbmlkkpffoadaa

namespace Go.Proofs.Ytdbmlkkpffoadaa
set_option linter.unusedVariables false

def shN (p : PgD) : Nat := (shL p p.m).length
def shR (p : PgD) (k : Nat) : Nat := ((shL p p.m).getD k (0, 1)).1
def shS (p : PgD) (k : Nat) : Int := ((shL p p.m).getD k (0, 1)).2
/-- A program that is another one's dual. -/
structure IsDu (p q : PgD) : Prop where
  n : q.n = shN p
  m : q.m = p.n
  c : ∀ k, k < shN p → q.C k = -(shS p k) * p.Rt (shR p k)
  l : ∀ j, j < p.n → q.Ln j = shN p
  k : ∀ j, j < p.n → q.Kd j = 1
  r : ∀ j, j < p.n → q.Rt j = p.C j
  z : ∀ j, j < p.n → ∀ k, k < shN p → q.Z j k = shS p k * p.Z (shR p k) j

theorem shL_mem (p : PgD) : ∀ i, ∀ s ∈ shL p i, s.1 < i ∧ ((s.2 = 1 ∧ p.Kd s.1 ≠ 1) ∨ (s.2 = -1 ∧ p.Kd s.1 ≠ 2)) := by
  intro i
  induction i with
  | zero => intro s hs; simp [shL] at hs
  | succ i ih =>
    intro s hs
    unfold shL at hs
    rw [List.mem_append, List.mem_append] at hs
    rcases hs with (hs | hs) | hs
    · have := ih s hs
      exact ⟨by omega, this.2⟩
    · by_cases h : p.Kd i = 1
      · rw [if_pos h] at hs; simp at hs
      · rw [if_neg h] at hs
        simp at hs
        subst hs
        exact ⟨by show i < i + 1; omega, .inl ⟨rfl, h⟩⟩
    · by_cases h : p.Kd i = 2
      · rw [if_pos h] at hs; simp at hs
      · rw [if_neg h] at hs
        simp at hs
        subst hs
        exact ⟨by show i < i + 1; omega, .inr ⟨rfl, h⟩⟩
theorem sh_at {p : PgD} {k : Nat} (hk : k < shN p) : shR p k < p.m ∧ ((shS p k = 1 ∧ p.Kd (shR p k) ≠ 1) ∨ (shS p k = -1 ∧ p.Kd (shR p k) ≠ 2)) := by
  have e : (shL p p.m).getD k (0, 1) = (shL p p.m)[k]'hk := by
    have hk : k < (shL p p.m).length := hk
    rw [List.getD_eq_getElem?_getD, List.getElem?_eq_getElem hk]
    rfl
  have h := shL_mem p p.m ((shL p p.m)[k]'hk) (List.getElem_mem hk)
  rw [← e] at h
  exact h
theorem shL_pos (p : PgD) : ∀ i, i ≤ (shL p i).length := by
  intro i
  induction i with
  | zero => exact Nat.zero_le _
  | succ i ih =>
    unfold shL
    rw [List.length_append, List.length_append]
    by_cases h : p.Kd i = 1
    · rw [if_pos h, if_neg (by omega)]; simp; omega
    · rw [if_neg h]; simp; omega
theorem sumN_snoc (F : Nat × Int → Int) (l : List (Nat × Int)) (a d : Nat × Int) : sumN (l ++ [a]).length (fun k => F ((l ++ [a]).getD k d)) = sumN l.length (fun k => F (l.getD k d)) + F a := by
  rw [List.length_append]
  show sumN l.length (fun k => F ((l ++ [a]).getD k d)) + F ((l ++ [a]).getD l.length d) = _
  have e : (l ++ [a]).getD l.length d = a := by simp [List.getD]
  rw [e]
  congr 1
  exact sumN_congr fun k hk => by
    have : (l ++ [a]).getD k d = l.getD k d := by simp [List.getD, List.getElem?_append_left hk]
    rw [this]
theorem sh_sum (p : PgD) (F : Nat × Int → Int) : ∀ i, sumN (shL p i).length (fun k => F ((shL p i).getD k (0, 1))) = sumN i (fun r => (if p.Kd r = 1 then 0 else F (r, 1)) + (if p.Kd r = 2 then 0 else F (r, -1))) := by
  intro i
  induction i with
  | zero => rfl
  | succ i ih =>
    show _ = sumN i (fun r => (if p.Kd r = 1 then 0 else F (r, 1)) + (if p.Kd r = 2 then 0 else F (r, -1))) + ((if p.Kd i = 1 then 0 else F (i, 1)) + (if p.Kd i = 2 then 0 else F (i, -1)))
    rw [← ih]
    show sumN ((shL p i ++ if p.Kd i = 1 then [] else [(i, 1)]) ++ if p.Kd i = 2 then [] else [(i, -1)]).length (fun k => F (((shL p i ++ if p.Kd i = 1 then [] else [(i, 1)]) ++ if p.Kd i = 2 then [] else [(i, -1)]).getD k (0, 1))) = _
    by_cases h : p.Kd i = 1
    · rw [if_pos h, if_pos h, if_neg (by omega), if_neg (by omega), List.append_nil, sumN_snoc]; omega
    · by_cases h2 : p.Kd i = 2
      · rw [if_neg h, if_neg h, if_pos h2, if_pos h2, List.append_nil, sumN_snoc]; omega
      · rw [if_neg h, if_neg h, if_neg h2, if_neg h2, sumN_snoc, sumN_snoc]; omega
theorem sumN_neg (n : Nat) (f : Nat → Int) : (sumN n fun i => -(f i)) = -(sumN n f) := by
  have h := sumN_mul n (-1) f
  have e : (sumN n fun i => -(f i)) = sumN n fun i => -1 * f i := sumN_congr fun i _ => by omega
  rw [e, h]; omega

/-- Multipliers as a point of the dual. -/
def duX (p : PgD) (y : Nat → Int) (k : Nat) : Int := max (shS p k * y (shR p k)) 0
theorem duX_sum {p : PgD} (hv : p.Ok) {y : Nat → Int} (hy : RgtP p y) (w : Nat → Int) : sumN (shN p) (fun k => shS p k * w (shR p k) * duX p y k) = sumN p.m fun i => w i * y i := by
  have h := sh_sum p (fun s => s.2 * w s.1 * max (s.2 * y s.1) 0) p.m
  refine Eq.trans h (sumN_congr fun r hr => ?_)
  have hk := hv.k r hr
  have hy := hy r hr
  simp only
  generalize y r = a at *
  generalize w r = b at *
  by_cases h1 : p.Kd r = 1
  · rw [if_pos h1, if_neg (by omega)]
    have := hy.1 h1
    rw [show max (-1 * a) 0 = -a by omega]
    grind
  · rw [if_neg h1]
    by_cases h2 : p.Kd r = 2
    · rw [if_pos h2]
      have := hy.2 h2
      rw [show max (1 * a) 0 = a by omega]
      grind
    · rw [if_neg h2]
      rcases Int.le_total 0 a with g | g
      · rw [show max (1 * a) 0 = a by omega, show max (-1 * a) 0 = 0 by omega]; grind
      · rw [show max (1 * a) 0 = 0 by omega, show max (-1 * a) 0 = -a by omega]; grind
/-- A point of the dual as multipliers. -/
def duY (p : PgD) (x : Nat → Int) (i : Nat) : Int := xBas (shN p) (shR p) (fun k => shS p k * x k) i
theorem duY_sum (p : PgD) (x w : Nat → Int) : (sumN p.m fun i => w i * duY p x i) = sumN (shN p) fun k => w (shR p k) * (shS p k * x k) :=
  xBas_sum (fun k hk => (sh_at hk).1) _ w
theorem duY_rgt {p : PgD} {x : Nat → Int} (hx : ∀ k, k < shN p → 0 ≤ x k) : RgtP p (duY p x) := fun i hi => by
  have key : ∀ s : Int, (∀ k, k < shN p → shR p k = i → shS p k = s) → duY p x i = s * sumN (shN p) (fun k => if shR p k = i then x k else 0) := fun s hs => by
    rw [← sumN_mul]
    exact sumN_congr fun k hk => by
      by_cases e : shR p k = i
      · rw [if_pos e, if_pos e, ← hs k hk e]
      · rw [if_neg e, if_neg e]; omega
  have hn : 0 ≤ sumN (shN p) (fun k => if shR p k = i then x k else 0) := sumN_nn fun k hk => by
    by_cases e : shR p k = i
    · rw [if_pos e]; exact hx k hk
    · rw [if_neg e]; omega
  refine ⟨fun h => ?_, fun h => ?_⟩
  · rw [key (-1) fun k hk e => by
      rcases (sh_at hk).2 with g | g
      · exact absurd (by rw [e]; exact h) g.2
      · exact g.1]
    omega
  · rw [key 1 fun k hk e => by
      rcases (sh_at hk).2 with g | g
      · exact g.1
      · exact absurd (by rw [e]; exact h) g.2]
    omega

section
variable {p q : PgD}
theorem du_row (hd : IsDu p q) (hv : p.Ok) {y : Nat → Int} (hy : RgtP p y) (j : Nat) (hj : j < p.n) : (sumN q.n fun k => q.Z j k * duX p y k) = colP p y j := by
  rw [hd.n]
  refine Eq.trans (sumN_congr fun k hk => ?_) (duX_sum hv hy (fun i => p.Z i j))
  rw [hd.z j hj k hk]
theorem du_cost (hd : IsDu p q) (hv : p.Ok) {y : Nat → Int} (hy : RgtP p y) : valP q (duX p y) = - rgtV p y := by
  unfold valP rgtV
  rw [hd.n, ← duX_sum hv hy p.Rt, ← sumN_neg]
  refine sumN_congr fun k hk => ?_
  rw [hd.c k hk]
  grind
theorem du_fea (hd : IsDu p q) (hv : p.Ok) {e : Int} {y : Nat → Int} (h : ProvP p e y) : FeaP q e (duX p y) := by
  refine ⟨fun k _ => by unfold duX; omega, fun j hj => ?_⟩
  rw [hd.m] at hj
  rw [du_row hd hv h.rgt j hj, hd.k j hj, hd.r j hj]
  exact ⟨fun _ => h.col j hj, fun h => absurd h (by decide), fun h => absurd h (by decide)⟩
theorem du_ray (hd : IsDu p q) (hv : p.Ok) {y : Nat → Int} (h : RefuP p y) : RayP q (duX p y) := by
  refine ⟨fun k _ => by unfold duX; omega, fun j hj => ?_, ?_⟩
  · rw [hd.m] at hj
    rw [du_row hd hv h.rgt j hj, hd.k j hj]
    exact ⟨fun _ => h.col j hj, fun h => absurd h (by decide), fun h => absurd h (by decide)⟩
  · rw [du_cost hd hv h.rgt]
    have := h.pos
    omega
theorem du_col (hd : IsDu p q) (x : Nat → Int) (j : Nat) (hj : j < p.n) : colP p (duY p x) j = sumN q.n fun k => q.Z j k * x k := by
  rw [hd.n]
  refine Eq.trans (duY_sum p x (fun i => p.Z i j)) (sumN_congr fun k hk => ?_)
  rw [hd.z j hj k hk]
  grind
theorem du_rgt (hd : IsDu p q) (x : Nat → Int) : rgtV p (duY p x) = - valP q x := by
  unfold valP
  rw [hd.n, ← sumN_neg]
  refine Eq.trans (duY_sum p x p.Rt) (sumN_congr fun k hk => ?_)
  rw [hd.c k hk]
  grind
theorem du_prov (hd : IsDu p q) {d : Int} {x : Nat → Int} (h : FeaP q d x) : ProvP p d (duY p x) := by
  refine ⟨duY_rgt fun k hk => h.nn k (by rw [hd.n]; exact hk), fun j hj => ?_⟩
  rw [du_col hd x j hj]
  have := (h.row j (by rw [hd.m]; exact hj)).1 (hd.k j hj)
  rw [hd.r j hj] at this
  exact this
theorem du_refu (hd : IsDu p q) {r : Nat → Int} (h : RayP q r) : RefuP p (duY p r) := by
  refine ⟨duY_rgt fun k hk => h.nn k (by rw [hd.n]; exact hk), fun j hj => ?_, ?_⟩
  · rw [du_col hd r j hj]
    exact (h.row j (by rw [hd.m]; exact hj)).1 (hd.k j hj)
  · rw [du_rgt hd r]
    have := h.neg
    omega
theorem du_ok (hd : IsDu p q) (hv : p.Ok) (hm : 0 < p.m) (hn : p.n ≤ 6) (hk : shN p ≤ 12) (hs : ∀ i, i < p.m → -1048576 ≤ p.Rt i ∧ p.Rt i ≤ 1048576) : q.Ok := by
  have h1 : p.m ≤ shN p := shL_pos p p.m
  refine ⟨by rw [hd.n]; omega, by rw [hd.n]; omega, by rw [hd.m]; omega, fun k hk => ?_, fun j hj => ?_, fun j hj k hk => ?_, fun j hj => ?_, fun j hj => ?_⟩
  · rw [hd.n] at hk
    rw [hd.c k hk]
    have ha := sh_at hk
    have := hs _ ha.1
    rcases ha.2 with g | g <;> rw [g.1] <;> omega
  · rw [hd.m] at hj; rw [hd.n]; exact hd.l j hj
  · rw [hd.m] at hj; rw [hd.n] at hk
    rw [hd.z j hj k hk]
    have ha := sh_at hk
    have := hv.z _ ha.1 j hj
    rcases ha.2 with g | g <;> rw [g.1] <;> omega
  · rw [hd.m] at hj; rw [hd.k j hj]; omega
  · rw [hd.m] at hj; rw [hd.r j hj]; have := hv.c j hj; omega
end
end Go.Proofs.Ytdbmlkkpffoadaa

namespace Go.Proofs.Ytdbmlkkpffoadaa
set_option linter.unusedVariables false
open Go.RowKit Go.Shelf

theorem shC_get : ∀ (l : List (Nat × Int)) (k : Nat), k < l.length → (shC l)[k * 2]? = some (Value.int .i64 ((l.getD k (0, 1)).1 : Int)) ∧ (shC l)[k * 2 + 1]? = some (Value.int .i64 (l.getD k (0, 1)).2)
  | [], k, h => absurd h (Nat.not_lt_zero _)
  | s :: l, 0, _ => ⟨rfl, rfl⟩
  | s :: l, k + 1, h => by
    have ih := shC_get l k (by simpa using h)
    have e : shC (s :: l) = Value.int .i64 (s.1 : Int) :: Value.int .i64 s.2 :: shC l := rfl
    rw [e, show (k + 1) * 2 = k * 2 + 1 + 1 by omega]
    exact ih
/-- The numbers of the dual's rows, cell by cell. -/
def duW (p : PgD) (P : Nat → Option Addr) (C : Nat → Nat) (j : Nat) : List Value := (List.range j).flatMap fun l => [Value.slice (P l) (shN p) (C l), .int .i64 1, .int .i64 (p.C l)]
theorem duW_succ (p : PgD) (P : Nat → Option Addr) (C : Nat → Nat) (j : Nat) : duW p P C (j + 1) = duW p P C j ++ [Value.slice (P j) (shN p) (C j), .int .i64 1, .int .i64 (p.C j)] := by
  unfold duW
  rw [List.range_succ, List.flatMap_append]
  rfl
theorem duW_congr (p : PgD) {P P2 : Nat → Option Addr} {C C2 : Nat → Nat} (j : Nat) (h : ∀ l, l < j → P2 l = P l ∧ C2 l = C l) : duW p P2 C2 j = duW p P C j := by
  induction j with
  | zero => rfl
  | succ j ih =>
    rw [duW_succ, duW_succ, ih (fun l hl => h l (by omega)), (h j (by omega)).1, (h j (by omega)).2]
theorem duW_len (p : PgD) (P : Nat → Option Addr) (C : Nat → Nat) (j : Nat) : (duW p P C j).length = j * 3 := by
  induction j with
  | zero => rfl
  | succ j ih => rw [duW_succ, List.length_append, ih]; show j * 3 + 3 = _; omega
theorem duW_get (p : PgD) (P : Nat → Option Addr) (C : Nat → Nat) : ∀ (n j : Nat), j < n → (duW p P C n)[j * 3]? = some (.slice (P j) (shN p) (C j)) ∧ (duW p P C n)[j * 3 + 1]? = some (.int .i64 1) ∧ (duW p P C n)[j * 3 + 2]? = some (.int .i64 (p.C j)) := by
  intro n
  induction n with
  | zero => intro j h; omega
  | succ n ih =>
    intro j h
    rw [duW_succ]
    have hl := duW_len p P C n
    by_cases e : j < n
    · have := ih j e
      rw [List.getElem?_append_left (by omega), List.getElem?_append_left (by omega), List.getElem?_append_left (by omega)]
      exact this
    · have e : j = n := by omega
      subst e
      rw [List.getElem?_append_right (by omega), List.getElem?_append_right (by omega), List.getElem?_append_right (by omega), hl, show j * 3 - j * 3 = 0 by omega, show j * 3 + 1 - j * 3 = 1 by omega, show j * 3 + 2 - j * 3 = 2 by omega]
      exact ⟨rfl, rfl, rfl⟩
def duC (p : PgD) (k : Nat) : Int := -(shS p k) * p.Rt (shR p k)
def duZ (p : PgD) (j k : Nat) : Int := shS p k * p.Z (shR p k) j

/-- A dual under way: its costs, its rows. -/
structure DuI (p : PgD) (B0 : Nat) (W : World) (xb gb db : Nat) (sv : Value) (c j : Nat) (cv rv : Value) (P : Nat → Option Addr) (C : Nat → Nat) : Prop where
  x : Blk W xb (.slice p.ca p.n p.cc) (.slice p.ra p.m p.rc)
  g : Blk W gb (.slice none 0 0) (.slice none 0 0)
  gz : Frz W gb
  s : W.ownsRow B0 63 2 sv (shN p) (shC (shL p p.m))
  d : Blk W db cv rv
  dz : Frz W db
  c : W.ownsRow B0 3 1 cv c ((List.range c).map fun l => Value.int .i64 (duC p l))
  r : W.ownsRow B0 50 3 rv j (duW p P C j)
  o : ∀ l, l < j → W.ownsRow B0 3 1 (.slice (P l) (shN p) (C l)) (shN p) ((List.range (shN p)).map fun k => Value.int .i64 (duZ p l k))
  lo : B0 ≤ xb ∧ B0 ≤ gb ∧ B0 ≤ db
  ne : xb ≠ db ∧ gb ≠ db
  sn : ∀ q, sv.ownBlock = some q → q ≠ db
  cn : ∀ q, cv.ownBlock = some q → q ≠ xb ∧ q ≠ gb ∧ q ≠ db ∧ sv.ownBlock ≠ some q
  rn : ∀ q, rv.ownBlock = some q → q ≠ xb ∧ q ≠ gb ∧ q ≠ db ∧ sv.ownBlock ≠ some q ∧ cv.ownBlock ≠ some q ∧ ∀ l, l < j → (Value.slice (P l) (shN p) (C l)).ownBlock ≠ some q
  on : ∀ l, l < j → ∀ q, (Value.slice (P l) (shN p) (C l)).ownBlock = some q → q ≠ db ∧ q ≠ gb
section
variable {p : PgD} {B0 : Nat} {W W2 : World} {xb gb db : Nat} {sv cv rv : Value} {c j : Nat} {P : Nat → Option Addr} {C : Nat → Nat}
theorem DuI.go (h : DuI p B0 W xb gb db sv c j cv rv P C) (hb : Below W.heap.size W W2) : DuI p B0 W2 xb gb db sv c j cv rv P C where
  x := h.x.on hb
  g := h.g.on hb
  gz := h.gz.on h.g.1 hb
  s := own_only h.s (Only.of_below (S := fun _ => False) hb) (fun _ _ q => q)
  d := h.d.on hb
  dz := h.dz.on h.d.1 hb
  c := own_only h.c (Only.of_below (S := fun _ => False) hb) (fun _ _ q => q)
  r := own_only h.r (Only.of_below (S := fun _ => False) hb) (fun _ _ q => q)
  o := fun l hl => own_only (h.o l hl) (Only.of_below (S := fun _ => False) hb) (fun _ _ q => q)
  lo := h.lo
  ne := h.ne
  sn := h.sn
  cn := h.cn
  rn := h.rn
  on := h.on
theorem frz_only {S : Nat → Prop} {b : Nat} (h : Frz W b) (hl : b < W.heap.size) (ho : Only S W W2) (hn : ¬ S b) : Frz W2 b :=
  ⟨(ho.frozen (p := ⟨b, 0, none⟩) hl hn).trans h.1, (ho.frozen (p := ⟨b, 1, none⟩) hl hn).trans h.2⟩
theorem blk_set0 {b : Nat} {v0 v1 y : Value} (h : Blk W b v0 v1) : Blk (W.setCell ⟨b, 0, none⟩ y) b y v1 :=
  ⟨by simpa using h.1, World.cell?_setCell_same' _ _ _ (by rw [h.2.1]; rfl), by rw [World.cell?_setCell_other _ _ _ _ (adr_ne (b := b) (i := 0) (j := 1) (by omega))]; exact h.2.2⟩
theorem DuI.pushC (h : DuI p B0 W xb gb db sv c 0 cv (.slice none 0 0) P C) {z : Int} (hz : z = duC p c) {g cap : Nat} (hA : Only (fun q => cv.ownBlock = some q) W W2)
    (ho : W2.ownsRow B0 3 1 (.slice (some ⟨g, 0, none⟩) (c + 1) cap) (c + 1) (((List.range c).map fun l => Value.int .i64 (duC p l)) ++ [Value.int .i64 z])) (hg : cv.ownBlock = some g ∨ W.heap.size ≤ g) :
    DuI p B0 (W2.setCell ⟨db, 0, none⟩ (.slice (some ⟨g, 0, none⟩) (c + 1) cap)) xb gb db sv (c + 1) 0 (.slice (some ⟨g, 0, none⟩) (c + 1) cap) (.slice none 0 0) P C := by
  have nx : ¬ cv.ownBlock = some xb := fun e => (h.cn xb e).1 rfl
  have ng : ¬ cv.ownBlock = some gb := fun e => (h.cn gb e).2.1 rfl
  have nd : ¬ cv.ownBlock = some db := fun e => (h.cn db e).2.2.1 rfl
  have hos := only_set W2 ⟨db, 0, none⟩ (.slice (some ⟨g, 0, none⟩) (c + 1) cap)
  have hgn : g ≠ xb ∧ g ≠ gb ∧ g ≠ db ∧ sv.ownBlock ≠ some g := by
    rcases hg with hg | hg
    · exact h.cn g hg
    · have a := h.x.1
      have b := h.g.1
      have d := h.d.1
      exact ⟨by omega, by omega, by omega, fun e => by have := (h.s.lt g e).2; omega⟩
  refine ⟨(h.x.only hA nx).far1 h.ne.1.symm, (h.g.only hA ng).far1 h.ne.2.symm, (frz_only h.gz h.g.1 hA ng).set1, own_only (own_only h.s hA (fun q hq e => (h.cn q e).2.2.2 hq)) hos (fun q hq e => h.sn q hq e), blk_set0 (h.d.only hA nd), (frz_only h.dz h.d.1 hA nd).set1, ?_, ⟨rfl, .inl ⟨rfl, rfl⟩⟩, fun l hl => absurd hl (Nat.not_lt_zero _), h.lo, h.ne, h.sn, fun q hq => ?_, fun q hq => (by cases hq), fun l hl => absurd hl (Nat.not_lt_zero _)⟩
  · rw [intsC_succ, ← hz]
    exact own_only ho hos (fun q hq e => by
      have e4 : g = q := by injection hq
      have e3 : q = db := e
      omega)
  · have e4 : g = q := by injection hq
    subst e4
    exact hgn
theorem DuI.pushR (h : DuI p B0 W xb gb db sv c j cv rv P C) {pa : Option Addr} {pc : Nat} (hp : W.ownsRow B0 3 1 (.slice pa (shN p) pc) (shN p) ((List.range (shN p)).map fun k => Value.int .i64 (duZ p j k))) (hpn : ∀ q, (Value.slice pa (shN p) pc).ownBlock = some q → q ≠ db ∧ q ≠ gb ∧ rv.ownBlock ≠ some q)
    {g cap : Nat} (hA : Only (fun q => rv.ownBlock = some q) W W2) (ho : W2.ownsRow B0 50 3 (.slice (some ⟨g, 0, none⟩) (j + 1) cap) (j + 1) (duW p P C j ++ [Value.slice pa (shN p) pc, .int .i64 1, .int .i64 (p.C j)])) (hg : rv.ownBlock = some g ∨ W.heap.size ≤ g) :
    DuI p B0 (W2.setCell ⟨db, 1, none⟩ (.slice (some ⟨g, 0, none⟩) (j + 1) cap)) xb gb db sv c (j + 1) cv (.slice (some ⟨g, 0, none⟩) (j + 1) cap) (updG P j pa) (updG C j pc) := by
  have nx : ¬ rv.ownBlock = some xb := fun e => (h.rn xb e).1 rfl
  have ng : ¬ rv.ownBlock = some gb := fun e => (h.rn gb e).2.1 rfl
  have nd : ¬ rv.ownBlock = some db := fun e => (h.rn db e).2.2.1 rfl
  have hos := only_set W2 ⟨db, 1, none⟩ (.slice (some ⟨g, 0, none⟩) (j + 1) cap)
  have hgn : g ≠ xb ∧ g ≠ gb ∧ g ≠ db ∧ sv.ownBlock ≠ some g ∧ cv.ownBlock ≠ some g ∧ (∀ l, l < j → (Value.slice (P l) (shN p) (C l)).ownBlock ≠ some g) ∧ (Value.slice pa (shN p) pc).ownBlock ≠ some g := by
    rcases hg with hg | hg
    · have := h.rn g hg
      exact ⟨this.1, this.2.1, this.2.2.1, this.2.2.2.1, this.2.2.2.2.1, this.2.2.2.2.2, fun e => (hpn g e).2.2 hg⟩
    · have a := h.x.1
      have b := h.g.1
      have d := h.d.1
      exact ⟨by omega, by omega, by omega, fun e => by have := (h.s.lt g e).2; omega, fun e => by have := (h.c.lt g e).2; omega, fun l hl e => by have := ((h.o l hl).lt g e).2; omega, fun e => by have := (hp.lt g e).2; omega⟩
  have ew : duW p (updG P j pa) (updG C j pc) (j + 1) = duW p P C j ++ [Value.slice pa (shN p) pc, .int .i64 1, .int .i64 (p.C j)] := by
    rw [duW_succ, updG_same, updG_same, duW_congr p j (fun l hl => ⟨updG_other (by omega), updG_other (by omega)⟩)]
  have blk : ∀ l, l < j + 1 → ∀ q, (Value.slice (updG P j pa l) (shN p) (updG C j pc l)).ownBlock = some q → (q ≠ db ∧ q ≠ gb) ∧ q ≠ g ∧ rv.ownBlock ≠ some q := fun l hl q hq => by
    by_cases e : l = j
    · subst e
      rw [updG_same, updG_same] at hq
      exact ⟨⟨(hpn q hq).1, (hpn q hq).2.1⟩, fun e => hgn.2.2.2.2.2.2 (e ▸ hq), (hpn q hq).2.2⟩
    · rw [updG_other e, updG_other e] at hq
      exact ⟨h.on l (by omega) q hq, fun e2 => hgn.2.2.2.2.2.1 l (by omega) (e2 ▸ hq), fun e2 => (h.rn q e2).2.2.2.2.2 l (by omega) hq⟩
  refine ⟨(h.x.only hA nx).far1 h.ne.1.symm, (h.g.only hA ng).far1 h.ne.2.symm, (frz_only h.gz h.g.1 hA ng).set1, own_only (own_only h.s hA (fun q hq e => (h.rn q e).2.2.2.1 hq)) hos (fun q hq e => h.sn q hq e), (h.d.only hA nd).set1, (frz_only h.dz h.d.1 hA nd).set1,
    own_only (own_only h.c hA (fun q hq e => (h.rn q e).2.2.2.2.1 hq)) hos (fun q hq e => (h.cn q hq).2.2.1 e), ?_, fun l hl => ?_, h.lo, h.ne, h.sn, h.cn, fun q hq => ?_, fun l hl q hq => (blk l hl q hq).1⟩
  · rw [ew]
    exact own_only ho hos (fun q hq e => by
      have e4 : g = q := by injection hq
      have e3 : q = db := e
      omega)
  · have hb := blk l hl
    by_cases e : l = j
    · subst e
      rw [updG_same, updG_same] at hb ⊢
      exact own_only (own_only hp hA (fun q hq e => (hb q hq).2.2 e)) hos (fun q hq e => (hb q hq).1.1 e)
    · rw [updG_other e, updG_other e] at hb ⊢
      exact own_only (own_only (h.o l (by omega)) hA (fun q hq e => (hb q hq).2.2 e)) hos (fun q hq e => (hb q hq).1.1 e)
  · have e4 : g = q := by injection hq
    subst e4
    exact ⟨hgn.1, hgn.2.1, hgn.2.2.1, hgn.2.2.2.1, hgn.2.2.2.2.1, fun l hl e => (blk l hl _ e).2.1 rfl⟩
end
theorem own_mono {w : World} {base base' : Nat} {e : TypeId} {size : Nat} {v : Value} {n : Nat} {xs : List Value} (h : w.ownsRow base e size v n xs) (hb : base' ≤ base) : w.ownsRow base' e size v n xs :=
  ⟨h.1, h.2.imp id (fun ⟨g, cap, cur, h1, h2, h3⟩ => ⟨g, cap, cur, h1, Nat.le_trans hb h2, h3⟩)⟩
theorem own_some {W : World} {base t size n : Nat} {v : Value} {xs : List Value} (h : W.ownsRow base t size v n xs) (hn : 0 < n) : ∃ g cap, v = .slice (some ⟨g, 0, none⟩) n cap := by
  rcases h.2 with ⟨h1, h2⟩ | ⟨g, cap, cur, hv, _⟩
  · omega
  · exact ⟨g, cap, hv⟩
/-- What Dual returns. -/
def zeroPg : PgD := ⟨none, 0, 0, fun _ => 0, none, 0, 0, fun _ => none, fun _ => 0, fun _ => 0, fun _ _ => 0, fun _ => 0, fun _ => 0⟩
theorem zeroPg_at (W : World) : zeroPg.At W := ⟨fun h => by simp [zeroPg] at h, fun h => by simp [zeroPg] at h, fun i h => by simp [zeroPg] at h⟩
def RtS (p : PgD) : Prop := ∀ i, i < p.m → -1048576 ≤ p.Rt i ∧ p.Rt i ≤ 1048576
def DuaO (p q : PgD) (er : Int) : Prop :=
  (er = 1 ∧ ¬ p.Ok ∧ q = zeroPg) ∨
  (er = 14 ∧ p.Ok ∧ p.m = 0 ∧ q = zeroPg) ∨
  (er = 4 ∧ p.Ok ∧ 0 < p.m ∧ ¬ (p.n ≤ 6 ∧ shN p ≤ 12) ∧ q = zeroPg) ∨
  (er = 5 ∧ p.Ok ∧ 0 < p.m ∧ (p.n ≤ 6 ∧ shN p ≤ 12) ∧ ¬ RtS p ∧ q = zeroPg) ∨
  (er = 0 ∧ p.Ok ∧ 0 < p.m ∧ (p.n ≤ 6 ∧ shN p ≤ 12) ∧ RtS p ∧ IsDu p q)
def duP (p : PgD) (ca : Option Addr) (cc : Nat) (ra : Option Addr) (rc : Nat) (P : Nat → Option Addr) (C : Nat → Nat) : PgD := ⟨ca, shN p, cc, duC p, ra, p.n, rc, P, fun _ => shN p, C, duZ p, fun _ => 1, p.C⟩
theorem irow_own {W : World} {base n : Nat} {pa : Option Addr} {pc : Nat} {f : Nat → Int} (h : W.ownsRow base 3 1 (.slice pa n pc) n ((List.range n).map fun l => Value.int .i64 (f l))) : IRow W pa n f := fun hn => by
  obtain ⟨g, cap, e⟩ := own_some h hn
  have e1 : pa = some ⟨g, 0, none⟩ := by injection e
  rw [e] at h
  refine ⟨g, 0, e1, (h.lt g rfl).2, fun j hj => ?_⟩
  rw [Nat.zero_add, h.cellAt j (by omega)]
  simp [hj]
theorem DuI.fin {p : PgD} {B0 : Nat} {W : World} {xb gb db : Nat} {sv : Value} {ca ra : Option Addr} {cc rc : Nat} {P : Nat → Option Addr} {C : Nat → Nat} (h : DuI p B0 W xb gb db sv (shN p) p.n (.slice ca (shN p) cc) (.slice ra p.n rc) P C) : (duP p ca cc ra rc P C).At W where
  cost := irow_own h.c
  rows := fun hm => by
    have hm : 0 < p.n := hm
    obtain ⟨g, cap, e⟩ := own_some h.r hm
    have e1 : ra = some ⟨g, 0, none⟩ := by injection e
    have hr := h.r
    rw [e] at hr
    refine ⟨g, 0, e1, (hr.lt g rfl).2, fun i hi => ?_⟩
    have hi : i < p.n := hi
    have hg := duW_get p P C p.n i hi
    rw [Nat.zero_add, hr.cellAt (i * 3) (by omega), hr.cellAt (i * 3 + 1) (by omega), hr.cellAt (i * 3 + 2) (by omega)]
    exact hg
  coef := fun i hi => irow_own (h.o i hi)
theorem duP_is (p : PgD) (ca : Option Addr) (cc : Nat) (ra : Option Addr) (rc : Nat) (P : Nat → Option Addr) (C : Nat → Nat) : IsDu p (duP p ca cc ra rc P C) :=
  ⟨rfl, rfl, fun _ _ => rfl, fun _ _ => rfl, fun _ _ => rfl, fun _ _ => rfl, fun _ _ _ _ => rfl⟩

theorem tri_news {W : World} {b : Nat} {u v x : Value} (h0 : W.cell? ⟨b, 0, none⟩ = some u) (h1 : W.cell? ⟨b, 1, none⟩ = some v) (h2 : W.cell? ⟨b, 2, none⟩ = some x) : ∀ l y, [u, v, x][l]? = some y → W.cell? ((⟨b, 0, none⟩ : Addr).add l) = some y := fun l y hy => by
  rw [show (⟨b, 0, none⟩ : Addr).add l = ⟨b, l, none⟩ by unfold Addr.add; split <;> simp_all]
  match l, hy with
  | 0, hy => simp at hy; rw [← hy]; exact h0
  | 1, hy => simp at hy; rw [← hy]; exact h1
  | 2, hy => simp at hy; rw [← hy]; exact h2
theorem below_sets {w W : World} {B gb : Nat} {x y : Value} (h : Below B w W) (hg : B ≤ gb) : Below B w ((W.setCell ⟨gb, 0, none⟩ x).setCell ⟨gb, 1, none⟩ y) :=
  (h.setCell (p := ⟨gb, 0, none⟩) hg x).setCell (p := ⟨gb, 1, none⟩) hg y
theorem only_sets (W : World) (g : Nat) (x y : Value) : Only (fun q => q = g) W ((W.setCell ⟨g, 0, none⟩ x).setCell ⟨g, 1, none⟩ y) := (only_set W ⟨g, 0, none⟩ x).setCell ⟨g, 1, none⟩ rfl y
theorem irow_only {S : Nat → Prop} {W W2 : World} {base n : Nat} {pa : Option Addr} {pc : Nat} {f : Nat → Int} (h : W.ownsRow base 3 1 (.slice pa n pc) n ((List.range n).map fun l => Value.int .i64 (f l))) (ho : Only S W W2) (hn : ∀ q, (Value.slice pa n pc).ownBlock = some q → ¬ S q) : IRow W2 pa n f := irow_own (own_only h ho hn)
theorem DuI.fin2 {p : PgD} {B0 : Nat} {W W2 : World} {xb gb db : Nat} {sv : Value} {ca ra : Option Addr} {cc rc : Nat} {P : Nat → Option Addr} {C : Nat → Nat} (h : DuI p B0 W xb gb db sv (shN p) p.n (.slice ca (shN p) cc) (.slice ra p.n rc) P C) (ho : Only (fun q => q = gb) W W2) (hg : ∀ l, l < p.n → ∀ q, (Value.slice (P l) (shN p) (C l)).ownBlock = some q → q ≠ gb) : (duP p ca cc ra rc P C).At W2 where
  cost := irow_only h.c ho (fun q hq => (h.cn q hq).2.1)
  rows := fun hm => by
    have hm : 0 < p.n := hm
    have hr0 := own_only h.r ho (fun q hq => (h.rn q hq).2.1)
    obtain ⟨g, cap, e⟩ := own_some hr0 hm
    have e1 : ra = some ⟨g, 0, none⟩ := by injection e
    rw [e] at hr0
    refine ⟨g, 0, e1, (hr0.lt g rfl).2, fun i hi => ?_⟩
    have hi : i < p.n := hi
    have hg := duW_get p P C p.n i hi
    rw [Nat.zero_add, hr0.cellAt (i * 3) (by omega), hr0.cellAt (i * 3 + 1) (by omega), hr0.cellAt (i * 3 + 2) (by omega)]
    exact hg
  coef := fun i hi => irow_only (h.o i hi) ho (fun q hq => hg i hi q hq)

structure DuAR (db sb xb gr gro R c pc pm prc B0 : Nat) (pa : Option Addr) (fc : Nat → Int) (rt sg ns z : Int) (Wc : World) (L : Nat → Bool) (v : Nat → Value) (W : World) : Prop where
  st : L 14 = false → Below Wc.heap.size Wc W
  f0 : Had L 0 (v 48 = .pointer (some ⟨db, 0, none⟩))
  f1 : Had L 1 (v 49 = .slice pa c pc)
  f2 : Had L 2 (v 50 = .pointer (some ⟨sb, 1, none⟩))
  f3 : Had L 3 (v 51 = .int .i64 sg)
  f4 : Had L 4 (v 52 = .int .i64 ns)
  f5 : Had L 5 (v 53 = .pointer (some ⟨xb, 1, none⟩))
  f6 : Had L 6 (v 54 = .slice (some ⟨gr, gro, none⟩) (pm) (prc))
  f7 : Had L 7 (v 55 = .pointer (some ⟨sb, 0, none⟩))
  f8 : Had L 8 (v 56 = .int .i64 (R : Int))
  f9 : Had L 9 (v 57 = .pointer (some ⟨gr, gro + R * 3, none⟩))
  f10 : Had L 10 (v 58 = .pointer (some ⟨gr, gro + R * 3 + 2, none⟩))
  f11 : Had L 11 (v 59 = .int .i64 rt)
  f12 : Had L 12 (v 60 = .int .i64 z)
  x13 : Had L 13 (L 14 = false → ∃ B, v 61 = .slice (some ⟨B, 0, none⟩) 1 1 ∧ SlR W B [.int .i64 z])
  x14 : Had L 14 (L 16 = false → AppW Wc W B0 3 (.slice pa c pc) c (((List.range c).map fun l => Value.int .i64 (fc l)) ++ [Value.int .i64 z]) (v 62))
  f15 : Had L 15 (v 63 = .pointer (some ⟨db, 0, none⟩))
  s1 : Had L 16 (∃ W2 gq capq, AppW Wc W2 B0 3 (.slice pa c pc) c (((List.range c).map fun l => Value.int .i64 (fc l)) ++ [Value.int .i64 z]) (.slice (some ⟨gq, 0, none⟩) (c + 1) capq) ∧ W = W2.setCell ⟨db, 0, none⟩ (.slice (some ⟨gq, 0, none⟩) (c + 1) capq))
  w1 : Had L 1 (∀ j ∈ [0], L j = true)
  w3 : Had L 3 (∀ j ∈ [2], L j = true)
  w4 : Had L 4 (∀ j ∈ [3], L j = true)
  w6 : Had L 6 (∀ j ∈ [5], L j = true)
  w8 : Had L 8 (∀ j ∈ [7], L j = true)
  w9 : Had L 9 (∀ j ∈ [6, 8], L j = true)
  w10 : Had L 10 (∀ j ∈ [9], L j = true)
  w11 : Had L 11 (∀ j ∈ [10], L j = true)
  w12 : Had L 12 (∀ j ∈ [4, 11], L j = true)
  w13 : Had L 13 (∀ j ∈ [12], L j = true)
  w14 : Had L 14 (∀ j ∈ [1, 13], L j = true)
  w16 : Had L 16 (∀ j ∈ [0, 1, 2, 3, 4, 5, 6, 7, 8, 9, 10, 11, 12, 13, 14, 15], L j = true)

structure DuBR (tb sb xb gr gro R cg co j c pc pm prc pn pk B0 : Nat) (pa : Option Addr) (fc : Nat → Int) (zc sg z : Int) (Wc : World) (L : Nat → Bool) (v : Nat → Value) (W : World) : Prop where
  st : L 16 = false → Below Wc.heap.size Wc W
  f0 : Had L 0 (v 81 = .pointer (some ⟨tb, 0, none⟩))
  f1 : Had L 1 (v 82 = .slice pa c pc)
  f2 : Had L 2 (v 83 = .pointer (some ⟨sb, 1, none⟩))
  f3 : Had L 3 (v 84 = .int .i64 sg)
  f4 : Had L 4 (v 85 = .pointer (some ⟨xb, 1, none⟩))
  f5 : Had L 5 (v 86 = .slice (some ⟨gr, gro, none⟩) (pm) (prc))
  f6 : Had L 6 (v 87 = .pointer (some ⟨sb, 0, none⟩))
  f7 : Had L 7 (v 88 = .int .i64 (R : Int))
  f8 : Had L 8 (v 89 = .pointer (some ⟨gr, gro + R * 3, none⟩))
  f9 : Had L 9 (v 90 = .pointer (some ⟨gr, gro + R * 3, none⟩))
  f10 : Had L 10 (v 91 = .slice (some ⟨cg, co, none⟩) (pn) (pk))
  f11 : Had L 11 (v 92 = .int .i64 (j : Int))
  f12 : Had L 12 (v 93 = .pointer (some ⟨cg, co + j, none⟩))
  f13 : Had L 13 (v 94 = .int .i64 zc)
  f14 : Had L 14 (v 95 = .int .i64 z)
  x15 : Had L 15 (L 16 = false → ∃ B, v 96 = .slice (some ⟨B, 0, none⟩) 1 1 ∧ SlR W B [.int .i64 z])
  x16 : Had L 16 (L 18 = false → AppW Wc W B0 3 (.slice pa c pc) c (((List.range c).map fun l => Value.int .i64 (fc l)) ++ [Value.int .i64 z]) (v 97))
  f17 : Had L 17 (v 98 = .pointer (some ⟨tb, 0, none⟩))
  s1 : Had L 18 (∃ W2 gq capq, AppW Wc W2 B0 3 (.slice pa c pc) c (((List.range c).map fun l => Value.int .i64 (fc l)) ++ [Value.int .i64 z]) (.slice (some ⟨gq, 0, none⟩) (c + 1) capq) ∧ W = W2.setCell ⟨tb, 0, none⟩ (.slice (some ⟨gq, 0, none⟩) (c + 1) capq))
  w1 : Had L 1 (∀ j ∈ [0], L j = true)
  w3 : Had L 3 (∀ j ∈ [2], L j = true)
  w5 : Had L 5 (∀ j ∈ [4], L j = true)
  w7 : Had L 7 (∀ j ∈ [6], L j = true)
  w8 : Had L 8 (∀ j ∈ [5, 7], L j = true)
  w9 : Had L 9 (∀ j ∈ [8], L j = true)
  w10 : Had L 10 (∀ j ∈ [9], L j = true)
  w12 : Had L 12 (∀ j ∈ [10, 11], L j = true)
  w13 : Had L 13 (∀ j ∈ [12], L j = true)
  w14 : Had L 14 (∀ j ∈ [3, 13], L j = true)
  w15 : Had L 15 (∀ j ∈ [14], L j = true)
  w16 : Had L 16 (∀ j ∈ [1, 15], L j = true)
  w18 : Had L 18 (∀ j ∈ [0, 1, 2, 3, 4, 5, 6, 7, 8, 9, 10, 11, 12, 13, 14, 15, 16, 17], L j = true)

set_option maxRecDepth 100000 in
set_option maxHeartbeats 32000000 in
theorem Dual_any (p : PgD) (hs : p.Sm) (w : World) (hp : p.At w) :
    Calls Try.prog 9 #[p.val] w fun e w' => Below w.heap.size w w' ∧ ∃ q er, e = .returned (.tuple #[q.val, .int .i64 er]) ∧ q.At w' ∧ DuaO p q er := by
  obtain ⟨v, hv⟩ := bool_of p.Ok
  obtain ⟨u, hu⟩ := bool_of (RtS p)
  have HU := Lib.hid hu
  have HV := Lib.hid hv
  have HP := Lib.hid hp
  have CV := fun W (h : p.At W) => Lib.hid (pValid_any p hs v hv W h)
  have HCV := Lib.hid CV
  have CS := fun W (h : p.At W) (hk : p.Ok) => Lib.hid (sharesOf_any p hk W h)
  have HCS := Lib.hid CS
  have CR := fun W (h : p.At W) (hk : p.Ok) => Lib.hid (smallRights_any p hk W h u hu)
  have HCR := Lib.hid CR
  have hb1 : Below w.heap.size w (w.alloc (Obj.cells #[Value.slice p.ca p.n p.cc, .slice p.ra p.m p.rc] 25)) := (Below.refl _ _).alloc (Nat.le_refl _) _
  obtain ⟨w1, hw1⟩ : ∃ W, W = w.alloc (Obj.cells #[Value.slice p.ca p.n p.cc, .slice p.ra p.m p.rc] 25) := ⟨_, rfl⟩
  obtain ⟨xb, hxb⟩ : ∃ x, x = w.heap.size := ⟨_, rfl⟩
  have hB : Blk w1 xb (.slice p.ca p.n p.cc) (.slice p.ra p.m p.rc) := by rw [hw1, hxb]; exact Blk.new _ _ _ _
  rw [← hw1] at hb1
  have hb2 : Below w1.heap.size w1 (w1.alloc (Obj.cells #[Value.slice none 0 0, .slice none 0 0] 25)) := (Below.refl _ _).alloc (Nat.le_refl _) _
  obtain ⟨w2, hw2⟩ : ∃ W, W = w1.alloc (Obj.cells #[Value.slice none 0 0, .slice none 0 0] 25) := ⟨_, rfl⟩
  obtain ⟨gb, hgb⟩ : ∃ x, x = xb + 1 := ⟨_, rfl⟩
  have hgw : gb = w1.heap.size := by rw [hgb, hw1, hxb]; simp
  have hG : Blk w2 gb (.slice none 0 0) (.slice none 0 0) := by rw [hw2, hgw]; exact Blk.new _ _ _ _
  have hF : Frz w2 gb := by rw [hw2, hgw]; exact Frz.new _ _ _ _
  rw [← hw2] at hb2
  have HB := Lib.hid (below_on hb1 hb2)
  have HX := Lib.hid (hB.on hb2)
  have HG := Lib.hid (And.intro hG hF)
  have HGB : Hid (w.heap.size ≤ xb ∧ w.heap.size ≤ gb ∧ xb < gb) := by show _ ∧ _; rw [hgw]; exact ⟨by omega, hb1.size, by have := hB.1; omega⟩
  clear hb1 hb2 hB hG hF hp hv hu CV CS CR hs
  unfold PgD.val at HCV HCS HCR ⊢
  go_enter Try.func9, Try.ntmps9
  go_upto_region 1 with fail
  rw [← hxb, ← hw1, ← hgb, ← hw2]
  clear hxb hw1 hgb hgw hw2
  have q0 := HX.out.2.1
  have q1 := HX.out.2.2
  go_wp2_with fail
  clear q0 q1
  (with_reducible refine (((HCV.out _ (HP.out.on HB.out)).out).mono ?_))
  rintro e w3 ⟨rfl, hb3⟩
  have HX := Lib.hid (HX.out.on hb3)
  have HG := Lib.hid (And.intro (HG.out.1.on hb3) (HG.out.2.on HG.out.1.1 hb3))
  have HB := Lib.hid (below_on HB.out hb3)
  clear hb3
  clear HCV
  cases v
  · have hno : ¬ p.Ok := fun h => by have := HV.out.2 h; cases this
    have H5 := Lib.hid (Blk.set (x := .slice none 0 0) (y := .slice none 0 0) HG.out.1)
    have O5 := Lib.hid (below_sets (x := .slice none 0 0) (y := .slice none 0 0) HB.out HGB.out.2.1)
    obtain ⟨_, c0, c1⟩ := HG.out.1
    obtain ⟨f0, f1⟩ := HG.out.2
    go_wp2_with fail
    clear c0 c1 f0 f1
    generalize (w3.setCell ⟨gb, 0, none⟩ (.slice none 0 0)).setCell ⟨gb, 1, none⟩ (.slice none 0 0) = W5 at *
    have x0 := H5.out.2.1
    have x1 := H5.out.2.2
    (try simp only [Exit.inBlock, Exit.then])
    refine bodyPost_ret (by simp [results, Try.results9, x0, x1, go_sem]; rfl) rfl ?_
    exact ⟨O5.out, zeroPg, 1, rfl, zeroPg_at _, .inl ⟨rfl, hno, rfl⟩⟩
  have hok : p.Ok := HV.out.1 rfl
  have hm6 := hok.m2
  have hn12 := hok.n2
  have hn1 := hok.n1
  have hml : shN p ≤ 12 := shL_len p p.m |> fun h => by unfold shN; omega
  have q0 := HX.out.2.1
  have q1 := HX.out.2.2
  by_cases hm0 : p.m = 0
  · have HM0 := Lib.hid hm0
    have hmi : ((p.m : Int) == 0) = true := by rw [hm0]; rfl
    have hmd : decide ((p.m : Int) = 0) = true := by rw [hm0]; rfl
    clear hm0
    go_upto_region 4 with fail
    clear q0 q1
    have H5 := Lib.hid (Blk.set (x := .slice none 0 0) (y := .slice none 0 0) HG.out.1)
    have O5 := Lib.hid (below_sets (x := .slice none 0 0) (y := .slice none 0 0) HB.out HGB.out.2.1)
    obtain ⟨_, c0, c1⟩ := HG.out.1
    obtain ⟨f0, f1⟩ := HG.out.2
    go_wp2_with fail
    clear c0 c1 f0 f1
    generalize (w3.setCell ⟨gb, 0, none⟩ (.slice none 0 0)).setCell ⟨gb, 1, none⟩ (.slice none 0 0) = W5 at *
    have x0 := H5.out.2.1
    have x1 := H5.out.2.2
    (try simp only [Exit.inBlock, Exit.then])
    refine bodyPost_ret (by simp [results, Try.results9, x0, x1, go_sem]; rfl) rfl ?_
    exact ⟨O5.out, zeroPg, 14, rfl, zeroPg_at _, .inr (.inl ⟨rfl, hok, HM0.out, rfl⟩)⟩
  have hmp : 0 < p.m := by omega
  have hmi : ((p.m : Int) == 0) = false := by simp; omega
  have hmd : ¬ ((p.m : Int) = 0) := by omega
  clear hm0
  go_upto_region 5 with fail
  clear hmi hmd q0 q1
  have q0 := HX.out.2.1
  have q1 := HX.out.2.2
  go_wp2_with fail
  clear q0 q1
  (with_reducible refine (((HCS.out _ (HP.out.on HB.out) hok).out).mono ?_))
  rintro e w4 ⟨hb3, sa, sc, rfl, hso⟩
  have HSO : Hid (w4.ownsRow w.heap.size 63 2 (.slice sa (shN p) sc) (shN p) (shC (shL p p.m))) := own_mono hso HB.out.size
  rw [show (shL p p.m).length = shN p from rfl]
  clear hso
  have HX := Lib.hid (HX.out.on hb3)
  have HG := Lib.hid (And.intro (HG.out.1.on hb3) (HG.out.2.on HG.out.1.1 hb3))
  have HB := Lib.hid (below_on HB.out hb3)
  clear hb3
  clear HCS
  have q0 := HX.out.2.1
  have q1 := HX.out.2.2
  have d2 : ¬ (12 : Int) < (shN p : Int) := by omega
  by_cases hn6 : p.n ≤ 6
  case neg =>
    have d1 : (6 : Int) < (p.n : Int) := by omega
    have hd1 : decide ((6 : Int) < (p.n : Int)) = true := decide_eq_true d1
    have HN6 := Lib.hid hn6
    clear hn6
    have H5 := Lib.hid (Blk.set (x := .slice none 0 0) (y := .slice none 0 0) HG.out.1)
    have O5 := Lib.hid (below_sets (x := .slice none 0 0) (y := .slice none 0 0) HB.out HGB.out.2.1)
    obtain ⟨_, c0, c1⟩ := HG.out.1
    obtain ⟨f0, f1⟩ := HG.out.2
    go_wp2_with fail
    clear c0 c1 f0 f1
    generalize (w4.setCell ⟨gb, 0, none⟩ (.slice none 0 0)).setCell ⟨gb, 1, none⟩ (.slice none 0 0) = W5 at *
    have x0 := H5.out.2.1
    have x1 := H5.out.2.2
    (try simp only [Exit.inBlock, Exit.then])
    refine bodyPost_ret (by simp [results, Try.results9, x0, x1, go_sem]; rfl) rfl ?_
    exact ⟨O5.out, zeroPg, 4, rfl, zeroPg_at _, .inr (.inr (.inl ⟨rfl, hok, hmp, fun h => HN6.out h.1, rfl⟩))⟩
  have d1 : ¬ (6 : Int) < (p.n : Int) := by omega
  have hd1 : decide ((6 : Int) < (p.n : Int)) = false := decide_eq_false d1
  have hd2 : decide ((12 : Int) < (shN p : Int)) = false := decide_eq_false d2
  go_wp2_with fail
  clear q0 q1
  (with_reducible refine (((HCR.out _ (HP.out.on HB.out) hok).out).mono ?_))
  rintro e w5 ⟨rfl, hb3⟩
  have HSO : Hid (w5.ownsRow w.heap.size 63 2 (.slice sa (shN p) sc) (shN p) (shC (shL p p.m))) := own_only HSO.out (Only.of_below (S := fun _ => False) hb3) (fun _ _ q => q)
  have HX := Lib.hid (HX.out.on hb3)
  have HG := Lib.hid (And.intro (HG.out.1.on hb3) (HG.out.2.on HG.out.1.1 hb3))
  have HB := Lib.hid (below_on HB.out hb3)
  clear hb3
  clear HCR
  cases u
  · have hno : ¬ RtS p := fun h => by have := HU.out.2 h; cases this
    have H5 := Lib.hid (Blk.set (x := .slice none 0 0) (y := .slice none 0 0) HG.out.1)
    have O5 := Lib.hid (below_sets (x := .slice none 0 0) (y := .slice none 0 0) HB.out HGB.out.2.1)
    obtain ⟨_, c0, c1⟩ := HG.out.1
    obtain ⟨f0, f1⟩ := HG.out.2
    go_wp2_with fail
    clear c0 c1 f0 f1
    generalize (w5.setCell ⟨gb, 0, none⟩ (.slice none 0 0)).setCell ⟨gb, 1, none⟩ (.slice none 0 0) = W5 at *
    have x0 := H5.out.2.1
    have x1 := H5.out.2.2
    (try simp only [Exit.inBlock, Exit.then])
    refine bodyPost_ret (by simp [results, Try.results9, x0, x1, go_sem]; rfl) rfl ?_
    exact ⟨O5.out, zeroPg, 5, rfl, zeroPg_at _, .inr (.inr (.inr (.inl ⟨rfl, hok, hmp, ⟨hn6, hml⟩, hno, rfl⟩)))⟩
  have hrt : RtS p := HU.out.1 rfl
  have HOK := Lib.hid hok
  have HRT := Lib.hid hrt
  clear hok hrt HV HU
  go_upto_region 11 with fail
  have hb6 : Below w5.heap.size w5 (w5.alloc (Obj.cells #[Value.slice none 0 0, .slice none 0 0] 25)) := (Below.refl _ _).alloc (Nat.le_refl _) _
  obtain ⟨w6, hw6⟩ : ∃ W, W = w5.alloc (Obj.cells #[Value.slice none 0 0, .slice none 0 0] 25) := ⟨_, rfl⟩
  obtain ⟨db, hdb⟩ : ∃ x, x = w5.heap.size := ⟨_, rfl⟩
  rw [← hdb, ← hw6]
  have S0 : Hid (DuI p w.heap.size w6 xb gb db (.slice sa (shN p) sc) 0 0 (.slice none 0 0) (.slice none 0 0) (fun _ => none) (fun _ => 0) ∧ Below w.heap.size w w6) := by
    rw [← hw6] at hb6
    have e1 : Blk w6 db (.slice none 0 0) (.slice none 0 0) := by rw [hw6, hdb]; exact Blk.new _ _ _ _
    have e2 : Frz w6 db := by rw [hw6, hdb]; exact Frz.new _ _ _ _
    have a1 := HX.out.1
    have a2 := HG.out.1.1
    exact ⟨⟨HX.out.on hb6, HG.out.1.on hb6, HG.out.2.on HG.out.1.1 hb6, own_only HSO.out (Only.of_below (S := fun _ => False) hb6) (fun _ _ q => q), e1, e2, ⟨rfl, .inl ⟨rfl, rfl⟩⟩, ⟨rfl, .inl ⟨rfl, rfl⟩⟩, fun l hl => absurd hl (Nat.not_lt_zero _), ⟨HGB.out.1, HGB.out.2.1, by have := HB.out.size; omega⟩, ⟨by omega, by omega⟩,
      fun q hq => by have := (HSO.out.lt q hq).2; omega, fun q hq => (by cases hq), fun q hq => (by cases hq), fun l hl => absurd hl (Nat.not_lt_zero _)⟩, below_on HB.out hb6⟩
  clear hb6 hw6 hdb HB HX HG HSO HGB d1 d2 hd1 hd2
  obtain ⟨i0, hi0, hz0, hz1, hz2⟩ := info_parts (show (Try.prog.info? 3).map (fun i => (i.zero, i.size, i.bytes)) = some (some (Value.int IntKind.i64 0), 1, 8) by kernel_rfl)
  have HI := Lib.hid (And.intro hi0 (And.intro hz0 (And.intro hz1 hz2)))
  clear hi0 hz0 hz1 hz2
  obtain ⟨i2, hi0, hz0, hz1, hz2⟩ := info_parts (show (Try.prog.info? 50).map (fun i => (i.zero, i.size, i.bytes)) = some (some (Value.agg #[.slice none 0 0, .int .i64 0, .int .i64 0]), 3, 40) by kernel_rfl)
  have HI2 := Lib.hid (And.intro hi0 (And.intro hz0 (And.intro hz1 hz2)))
  clear hi0 hz0 hz1 hz2
  go_wp2_with fail
  go_loopg [44] (shN p) (fun g s44 wx => ∃ c : Nat, s44 = .int .i64 c ∧ g = shN p - c ∧ c ≤ shN p ∧ ∃ cv, Hid (DuI p w.heap.size wx xb gb db (.slice sa (shN p) sc) c 0 cv (.slice none 0 0) (fun _ => none) (fun _ => 0) ∧ Below w.heap.size w wx))
  case atStart => exact ⟨0, rfl, rfl, Nat.zero_le _, _, S0⟩
  case round =>
    clear S0
    obtain ⟨c, rfl, rfl, hc, cv, S⟩ := hrel
    rename World => W1
    by_cases hlt : c < shN p
    · have wk : IntKind.i64.wrap ((c : Int) + 1) = ((c + 1 : Nat) : Int) := by rw [IntWalk.i64_in _ (by omega)]; omega
      obtain ⟨pa, pc, hcv⟩ := own_form S.out.1.c
      subst hcv
      obtain ⟨sgb, scap, hse⟩ := own_some S.out.1.s (by omega)
      have hsa : sa = some ⟨sgb, 0, none⟩ := by injection hse
      have hsw := S.out.1.s
      rw [hsa] at hsw
      have hgt := shC_get (shL p p.m) c hlt
      have g0 : W1.cell? ⟨sgb, c * 2, none⟩ = some (.int .i64 (shR p c : Int)) := (hsw.cellAt (c * 2) (by omega)).trans hgt.1
      have g1 : W1.cell? ⟨sgb, c * 2 + 1, none⟩ = some (.int .i64 (shS p c)) := (hsw.cellAt (c * 2 + 1) (by omega)).trans hgt.2
      have HSA := Lib.hid hsa
      rw [hsa]
      clear hse hsw hgt hsa
      have hRk := sh_at hlt
      have hrr := HRT.out _ hRk.1
      obtain ⟨gr, gro, er, hgr, hrow⟩ := (HP.out.on S.out.2).rows (by omega)
      have hq3 := (hrow _ hRk.1).2.2
      have e1 : duC p c = -(shS p c) * p.Rt (shR p c) := rfl
      obtain ⟨R, hR⟩ : ∃ x, shR p c = x := ⟨_, rfl⟩
      obtain ⟨sg, hsg⟩ : ∃ x, shS p c = x := ⟨_, rfl⟩
      rw [hR] at hRk hrr hq3 e1 g0
      rw [hsg] at hRk e1 g1
      obtain ⟨rt, hrt⟩ : ∃ x, p.Rt R = x := ⟨_, rfl⟩
      rw [hrt] at hrr hq3 e1
      obtain ⟨ns, hns⟩ : ∃ x, x = -sg := ⟨_, rfl⟩
      obtain ⟨z, hz⟩ : ∃ x, x = ns * rt := ⟨_, rfl⟩
      have wn : IntKind.i64.wrap (-sg) = ns := by rw [IntWalk.i64_in _ (by rcases hRk.2 with h | h <;> omega)]; exact hns.symm
      have wm : IntKind.i64.wrap (ns * rt) = z := by rw [IntWalk.i64_in _ (by rw [hns]; rcases hRk.2 with h | h <;> rw [h.1] <;> omega)]; exact hz.symm
      have HZ : Hid (z = duC p c) := by show z = _; rw [e1, hz, hns]
      have lR : (R : Int) < (p.m : Int) := by omega
      have lR2 := hRk.1
      have HQ3 := Lib.hid (And.intro hq3 hgr)
      clear hrow hRk hrr hq3 hgr e1 hR hsg hrt hns hz
      rw [er]
      go_upto_region 14 with fail
      have hb6 : Below W1.heap.size W1 (W1.alloc (Obj.cells #[.int .i64 (R : Int), .int .i64 sg] 63)) := (Below.refl _ _).alloc (Nat.le_refl _) _
      obtain ⟨W2, hW2⟩ : ∃ W, W = W1.alloc (Obj.cells #[.int .i64 (R : Int), .int .i64 sg] 63) := ⟨_, rfl⟩
      obtain ⟨sb, hsb⟩ : ∃ x, x = W1.heap.size := ⟨_, rfl⟩
      rw [← hsb, ← hW2]
      have LS0 : Hid (W2.cell? ⟨sb, 0, none⟩ = some (.int .i64 (R : Int)) ∧ sb < W2.heap.size) := by rw [hW2, hsb]; exact ⟨by simp [go_sem], by simp⟩
      have LS1 : Hid (W2.cell? ⟨sb, 1, none⟩ = some (.int .i64 sg) ∧ sb < W2.heap.size) := by rw [hW2, hsb]; exact ⟨by simp [go_sem], by simp⟩
      have HB2 : Hid (Below W1.heap.size W1 W2) := by rw [hW2]; exact hb6
      clear hb6 hW2 hsb g0 g1
      rw [← HSA.out]
      have LD : Hid (W2.cell? ⟨db, 0, none⟩ = some (.slice pa c pc) ∧ db < W2.heap.size) := ⟨(S.out.1.go HB2.out).d.2.1, (S.out.1.go HB2.out).d.1⟩
      have LX1 : Hid (W2.cell? ⟨xb, 1, none⟩ = some (.slice (some ⟨gr, gro, none⟩) p.m p.rc) ∧ xb < W2.heap.size) := ⟨by rw [← er]; exact (S.out.1.go HB2.out).x.2.2, (S.out.1.go HB2.out).x.1⟩
      have LR2 : Hid (W2.cell? ⟨gr, gro + R * 3 + 2, none⟩ = some (.int .i64 rt) ∧ gr < W2.heap.size) := ⟨(HB2.out.cell (p := ⟨gr, gro + R * 3 + 2, none⟩) HQ3.out.2).trans HQ3.out.1, Nat.lt_of_lt_of_le HQ3.out.2 HB2.out.size⟩
      have LO : Hid (W2.ownsRow w.heap.size 3 1 (.slice pa c pc) c ((List.range c).map fun l => Value.int .i64 (duC p l))) := (S.out.1.go HB2.out).c
      have LB : Hid (w.heap.size ≤ W2.heap.size) := Nat.le_trans S.out.2.size HB2.out.size
      have LN : Hid (¬ (Value.slice pa c pc).ownBlock = some db) := fun e => ((S.out.1.cn db e).2.2.1 rfl)
      have LF : Hid (W2.frozen? ⟨db, 0, none⟩ = false) := (S.out.1.go HB2.out).dz.1
      have S2 := Lib.hid (And.intro (S.out.1.go HB2.out) (below_on S.out.2 HB2.out))
      clear S HQ3 HB2
      refine wp_region_each (fun L A W => ∃ (v : Nat → Value), A = ⟨#[_, _, _, _, _, _, _, _, _, _, _, _, _, _, _, _, _, _, _, _, _, _, _, _, _, _, _, _, _, _, _, _, _, _, _, _, _, _, _, _, _, _, _, _, _, _, _, _, v 48, v 49, v 50, v 51, v 52, v 53, v 54, v 55, v 56, v 57, v 58, v 59, v 60, v 61, v 62, v 63, _, _, _, _, _, _, _, _, _, _, _, _, _, _, _, _, _, _, _, _, _, _, _, _, _, _, _, _, _, _, _, _, _, _, _, _, _, _, _, _, _, _, _, _], []⟩ ∧ DuAR db sb xb gr gro R c pc p.m p.rc w.heap.size pa (duC p) rt sg ns z W2 L v W) (by kernel_rfl) (by kernel_rfl) ⟨fun jz => if jz = 48 then u48 else if jz = 49 then u49 else if jz = 50 then u50 else if jz = 51 then u51 else if jz = 52 then u52 else if jz = 53 then u53 else if jz = 54 then u54 else if jz = 55 then u55 else if jz = 56 then u56 else if jz = 57 then u57 else if jz = 58 then u58 else if jz = 59 then u59 else if jz = 60 then u60 else if jz = 61 then u61 else if jz = 62 then u62 else if jz = 63 then u63 else undef, rfl, ⟨(fun _ => Below.drew (Below.refl _ _)), Had.none, Had.none, Had.none, Had.none, Had.none, Had.none, Had.none, Had.none, Had.none, Had.none, Had.none, Had.none, Had.none, Had.none, Had.none, Had.none, Had.none, Had.none, Had.none, Had.none, Had.none, Had.none, Had.none, Had.none, Had.none, Had.none, Had.none, Had.none, Had.none⟩⟩ (rs := [0, 1, 2, 3, 4, 5, 6, 7, 8, 9, 10, 11, 12, 13, 14, 15, 16]) (by kernel_rfl) ?_ ?_
      · refine EachOf.cons [] rfl (by kernel_rfl) ?_ ?_
        · rintro L A W ⟨v, rfl, hR⟩ hi hw K hK
          have hk : L 14 = false := hR.w14.not (hR.w1.not hi rfl) rfl
          go_simp
          refine hK.out _ _ ?_
          exact ⟨(fun jz => if jz = 48 then .pointer (some ⟨db, 0, none⟩) else v jz), rfl, ⟨(fun h => hR.st (upd_false h)), (fun _ => rfl), hR.f1.k rfl, hR.f2.k rfl, hR.f3.k rfl, hR.f4.k rfl, hR.f5.k rfl, hR.f6.k rfl, hR.f7.k rfl, hR.f8.k rfl, hR.f9.k rfl, hR.f10.k rfl, hR.f11.k rfl, hR.f12.k rfl, hR.x13.keepM rfl (fun h hx => h (upd_false hx)), hR.x14.keepM rfl (fun h hx => h (upd_false hx)), hR.f15.k rfl, hR.s1.k rfl, hR.w1.o rfl, hR.w3.o rfl, hR.w4.o rfl, hR.w6.o rfl, hR.w8.o rfl, hR.w9.o rfl, hR.w10.o rfl, hR.w11.o rfl, hR.w12.o rfl, hR.w13.o rfl, hR.w14.o rfl, hR.w16.o rfl⟩⟩
        refine EachOf.cons [0] rfl (by kernel_rfl) ?_ ?_
        · rintro L A W ⟨v, rfl, hR⟩ hi hw K hK
          have hk : L 14 = false := hR.w14.not hi rfl
          have e0 := hR.f0 (hw 0 (by simp))
          simp only [e0]
          clear e0
          have q0 := ((hR.st hk).cell (p := ⟨db, 0, none⟩) LD.out.2).trans LD.out.1
          go_simp
          refine hK.out _ _ ?_
          exact ⟨(fun jz => if jz = 48 then .pointer (some ⟨db, 0, none⟩) else if jz = 49 then .slice pa c pc else v jz), rfl, ⟨(fun h => hR.st (upd_false h)), (fun _ => rfl), (fun _ => rfl), hR.f2.k rfl, hR.f3.k rfl, hR.f4.k rfl, hR.f5.k rfl, hR.f6.k rfl, hR.f7.k rfl, hR.f8.k rfl, hR.f9.k rfl, hR.f10.k rfl, hR.f11.k rfl, hR.f12.k rfl, hR.x13.keepM rfl (fun h hx => h (upd_false hx)), hR.x14.keepM rfl (fun h hx => h (upd_false hx)), hR.f15.k rfl, hR.s1.k rfl, (fun _ j hj => upd_on (hw j hj)), hR.w3.o rfl, hR.w4.o rfl, hR.w6.o rfl, hR.w8.o rfl, hR.w9.o rfl, hR.w10.o rfl, hR.w11.o rfl, hR.w12.o rfl, hR.w13.o rfl, hR.w14.o rfl, hR.w16.o rfl⟩⟩
        refine EachOf.cons [] rfl (by kernel_rfl) ?_ ?_
        · rintro L A W ⟨v, rfl, hR⟩ hi hw K hK
          have hk : L 14 = false := hR.w14.not (hR.w13.not (hR.w12.not (hR.w4.not (hR.w3.not hi rfl) rfl) rfl) rfl) rfl
          go_simp
          refine hK.out _ _ ?_
          exact ⟨(fun jz => if jz = 50 then .pointer (some ⟨sb, 1, none⟩) else v jz), rfl, ⟨(fun h => hR.st (upd_false h)), hR.f0.k rfl, hR.f1.k rfl, (fun _ => rfl), hR.f3.k rfl, hR.f4.k rfl, hR.f5.k rfl, hR.f6.k rfl, hR.f7.k rfl, hR.f8.k rfl, hR.f9.k rfl, hR.f10.k rfl, hR.f11.k rfl, hR.f12.k rfl, hR.x13.keepM rfl (fun h hx => h (upd_false hx)), hR.x14.keepM rfl (fun h hx => h (upd_false hx)), hR.f15.k rfl, hR.s1.k rfl, hR.w1.o rfl, hR.w3.o rfl, hR.w4.o rfl, hR.w6.o rfl, hR.w8.o rfl, hR.w9.o rfl, hR.w10.o rfl, hR.w11.o rfl, hR.w12.o rfl, hR.w13.o rfl, hR.w14.o rfl, hR.w16.o rfl⟩⟩
        refine EachOf.cons [2] rfl (by kernel_rfl) ?_ ?_
        · rintro L A W ⟨v, rfl, hR⟩ hi hw K hK
          have hk : L 14 = false := hR.w14.not (hR.w13.not (hR.w12.not (hR.w4.not hi rfl) rfl) rfl) rfl
          have e2 := hR.f2 (hw 2 (by simp))
          simp only [e2]
          clear e2
          have q0 := ((hR.st hk).cell (p := ⟨sb, 1, none⟩) LS1.out.2).trans LS1.out.1
          go_simp
          refine hK.out _ _ ?_
          exact ⟨(fun jz => if jz = 50 then .pointer (some ⟨sb, 1, none⟩) else if jz = 51 then .int .i64 sg else v jz), rfl, ⟨(fun h => hR.st (upd_false h)), hR.f0.k rfl, hR.f1.k rfl, (fun _ => rfl), (fun _ => rfl), hR.f4.k rfl, hR.f5.k rfl, hR.f6.k rfl, hR.f7.k rfl, hR.f8.k rfl, hR.f9.k rfl, hR.f10.k rfl, hR.f11.k rfl, hR.f12.k rfl, hR.x13.keepM rfl (fun h hx => h (upd_false hx)), hR.x14.keepM rfl (fun h hx => h (upd_false hx)), hR.f15.k rfl, hR.s1.k rfl, hR.w1.o rfl, (fun _ j hj => upd_on (hw j hj)), hR.w4.o rfl, hR.w6.o rfl, hR.w8.o rfl, hR.w9.o rfl, hR.w10.o rfl, hR.w11.o rfl, hR.w12.o rfl, hR.w13.o rfl, hR.w14.o rfl, hR.w16.o rfl⟩⟩
        refine EachOf.cons [3] rfl (by kernel_rfl) ?_ ?_
        · rintro L A W ⟨v, rfl, hR⟩ hi hw K hK
          have hk : L 14 = false := hR.w14.not (hR.w13.not (hR.w12.not hi rfl) rfl) rfl
          have e3 := hR.f3 (hw 3 (by simp))
          simp only [e3]
          clear e3
          go_simp
          refine hK.out _ _ ?_
          exact ⟨(fun jz => if jz = 51 then .int .i64 sg else if jz = 52 then .int .i64 ns else v jz), rfl, ⟨(fun h => hR.st (upd_false h)), hR.f0.k rfl, hR.f1.k rfl, hR.f2.k rfl, (fun _ => rfl), (fun _ => rfl), hR.f5.k rfl, hR.f6.k rfl, hR.f7.k rfl, hR.f8.k rfl, hR.f9.k rfl, hR.f10.k rfl, hR.f11.k rfl, hR.f12.k rfl, hR.x13.keepM rfl (fun h hx => h (upd_false hx)), hR.x14.keepM rfl (fun h hx => h (upd_false hx)), hR.f15.k rfl, hR.s1.k rfl, hR.w1.o rfl, hR.w3.o rfl, (fun _ j hj => upd_on (hw j hj)), hR.w6.o rfl, hR.w8.o rfl, hR.w9.o rfl, hR.w10.o rfl, hR.w11.o rfl, hR.w12.o rfl, hR.w13.o rfl, hR.w14.o rfl, hR.w16.o rfl⟩⟩
        refine EachOf.cons [] rfl (by kernel_rfl) ?_ ?_
        · rintro L A W ⟨v, rfl, hR⟩ hi hw K hK
          have hk : L 14 = false := hR.w14.not (hR.w13.not (hR.w12.not (hR.w11.not (hR.w10.not (hR.w9.not (hR.w6.not hi rfl) rfl) rfl) rfl) rfl) rfl) rfl
          go_simp
          refine hK.out _ _ ?_
          exact ⟨(fun jz => if jz = 53 then .pointer (some ⟨xb, 1, none⟩) else v jz), rfl, ⟨(fun h => hR.st (upd_false h)), hR.f0.k rfl, hR.f1.k rfl, hR.f2.k rfl, hR.f3.k rfl, hR.f4.k rfl, (fun _ => rfl), hR.f6.k rfl, hR.f7.k rfl, hR.f8.k rfl, hR.f9.k rfl, hR.f10.k rfl, hR.f11.k rfl, hR.f12.k rfl, hR.x13.keepM rfl (fun h hx => h (upd_false hx)), hR.x14.keepM rfl (fun h hx => h (upd_false hx)), hR.f15.k rfl, hR.s1.k rfl, hR.w1.o rfl, hR.w3.o rfl, hR.w4.o rfl, hR.w6.o rfl, hR.w8.o rfl, hR.w9.o rfl, hR.w10.o rfl, hR.w11.o rfl, hR.w12.o rfl, hR.w13.o rfl, hR.w14.o rfl, hR.w16.o rfl⟩⟩
        refine EachOf.cons [5] rfl (by kernel_rfl) ?_ ?_
        · rintro L A W ⟨v, rfl, hR⟩ hi hw K hK
          have hk : L 14 = false := hR.w14.not (hR.w13.not (hR.w12.not (hR.w11.not (hR.w10.not (hR.w9.not hi rfl) rfl) rfl) rfl) rfl) rfl
          have e5 := hR.f5 (hw 5 (by simp))
          simp only [e5]
          clear e5
          have q0 := ((hR.st hk).cell (p := ⟨xb, 1, none⟩) LX1.out.2).trans LX1.out.1
          go_simp
          refine hK.out _ _ ?_
          exact ⟨(fun jz => if jz = 53 then .pointer (some ⟨xb, 1, none⟩) else if jz = 54 then .slice (some ⟨gr, gro, none⟩) (p.m) (p.rc) else v jz), rfl, ⟨(fun h => hR.st (upd_false h)), hR.f0.k rfl, hR.f1.k rfl, hR.f2.k rfl, hR.f3.k rfl, hR.f4.k rfl, (fun _ => rfl), (fun _ => rfl), hR.f7.k rfl, hR.f8.k rfl, hR.f9.k rfl, hR.f10.k rfl, hR.f11.k rfl, hR.f12.k rfl, hR.x13.keepM rfl (fun h hx => h (upd_false hx)), hR.x14.keepM rfl (fun h hx => h (upd_false hx)), hR.f15.k rfl, hR.s1.k rfl, hR.w1.o rfl, hR.w3.o rfl, hR.w4.o rfl, (fun _ j hj => upd_on (hw j hj)), hR.w8.o rfl, hR.w9.o rfl, hR.w10.o rfl, hR.w11.o rfl, hR.w12.o rfl, hR.w13.o rfl, hR.w14.o rfl, hR.w16.o rfl⟩⟩
        refine EachOf.cons [] rfl (by kernel_rfl) ?_ ?_
        · rintro L A W ⟨v, rfl, hR⟩ hi hw K hK
          have hk : L 14 = false := hR.w14.not (hR.w13.not (hR.w12.not (hR.w11.not (hR.w10.not (hR.w9.not (hR.w8.not hi rfl) rfl) rfl) rfl) rfl) rfl) rfl
          go_simp
          refine hK.out _ _ ?_
          exact ⟨(fun jz => if jz = 55 then .pointer (some ⟨sb, 0, none⟩) else v jz), rfl, ⟨(fun h => hR.st (upd_false h)), hR.f0.k rfl, hR.f1.k rfl, hR.f2.k rfl, hR.f3.k rfl, hR.f4.k rfl, hR.f5.k rfl, hR.f6.k rfl, (fun _ => rfl), hR.f8.k rfl, hR.f9.k rfl, hR.f10.k rfl, hR.f11.k rfl, hR.f12.k rfl, hR.x13.keepM rfl (fun h hx => h (upd_false hx)), hR.x14.keepM rfl (fun h hx => h (upd_false hx)), hR.f15.k rfl, hR.s1.k rfl, hR.w1.o rfl, hR.w3.o rfl, hR.w4.o rfl, hR.w6.o rfl, hR.w8.o rfl, hR.w9.o rfl, hR.w10.o rfl, hR.w11.o rfl, hR.w12.o rfl, hR.w13.o rfl, hR.w14.o rfl, hR.w16.o rfl⟩⟩
        refine EachOf.cons [7] rfl (by kernel_rfl) ?_ ?_
        · rintro L A W ⟨v, rfl, hR⟩ hi hw K hK
          have hk : L 14 = false := hR.w14.not (hR.w13.not (hR.w12.not (hR.w11.not (hR.w10.not (hR.w9.not hi rfl) rfl) rfl) rfl) rfl) rfl
          have e7 := hR.f7 (hw 7 (by simp))
          simp only [e7]
          clear e7
          have q0 := ((hR.st hk).cell (p := ⟨sb, 0, none⟩) LS0.out.2).trans LS0.out.1
          go_simp
          refine hK.out _ _ ?_
          exact ⟨(fun jz => if jz = 55 then .pointer (some ⟨sb, 0, none⟩) else if jz = 56 then .int .i64 (R : Int) else v jz), rfl, ⟨(fun h => hR.st (upd_false h)), hR.f0.k rfl, hR.f1.k rfl, hR.f2.k rfl, hR.f3.k rfl, hR.f4.k rfl, hR.f5.k rfl, hR.f6.k rfl, (fun _ => rfl), (fun _ => rfl), hR.f9.k rfl, hR.f10.k rfl, hR.f11.k rfl, hR.f12.k rfl, hR.x13.keepM rfl (fun h hx => h (upd_false hx)), hR.x14.keepM rfl (fun h hx => h (upd_false hx)), hR.f15.k rfl, hR.s1.k rfl, hR.w1.o rfl, hR.w3.o rfl, hR.w4.o rfl, hR.w6.o rfl, (fun _ j hj => upd_on (hw j hj)), hR.w9.o rfl, hR.w10.o rfl, hR.w11.o rfl, hR.w12.o rfl, hR.w13.o rfl, hR.w14.o rfl, hR.w16.o rfl⟩⟩
        refine EachOf.cons [6, 8] rfl (by kernel_rfl) ?_ ?_
        · rintro L A W ⟨v, rfl, hR⟩ hi hw K hK
          have hk : L 14 = false := hR.w14.not (hR.w13.not (hR.w12.not (hR.w11.not (hR.w10.not hi rfl) rfl) rfl) rfl) rfl
          have e6 := hR.f6 (hw 6 (by simp))
          have e8 := hR.f8 (hw 8 (by simp))
          simp only [e6, e8]
          clear e6 e8
          go_simp
          refine hK.out _ _ ?_
          exact ⟨(fun jz => if jz = 54 then .slice (some ⟨gr, gro, none⟩) (p.m) (p.rc) else if jz = 56 then .int .i64 (R : Int) else if jz = 57 then .pointer (some ⟨gr, gro + R * 3, none⟩) else v jz), rfl, ⟨(fun h => hR.st (upd_false h)), hR.f0.k rfl, hR.f1.k rfl, hR.f2.k rfl, hR.f3.k rfl, hR.f4.k rfl, hR.f5.k rfl, (fun _ => rfl), hR.f7.k rfl, (fun _ => rfl), (fun _ => rfl), hR.f10.k rfl, hR.f11.k rfl, hR.f12.k rfl, hR.x13.keepM rfl (fun h hx => h (upd_false hx)), hR.x14.keepM rfl (fun h hx => h (upd_false hx)), hR.f15.k rfl, hR.s1.k rfl, hR.w1.o rfl, hR.w3.o rfl, hR.w4.o rfl, hR.w6.o rfl, hR.w8.o rfl, (fun _ j hj => upd_on (hw j hj)), hR.w10.o rfl, hR.w11.o rfl, hR.w12.o rfl, hR.w13.o rfl, hR.w14.o rfl, hR.w16.o rfl⟩⟩
        refine EachOf.cons [9] rfl (by kernel_rfl) ?_ ?_
        · rintro L A W ⟨v, rfl, hR⟩ hi hw K hK
          have hk : L 14 = false := hR.w14.not (hR.w13.not (hR.w12.not (hR.w11.not hi rfl) rfl) rfl) rfl
          have e9 := hR.f9 (hw 9 (by simp))
          simp only [e9]
          clear e9
          go_simp
          refine hK.out _ _ ?_
          exact ⟨(fun jz => if jz = 57 then .pointer (some ⟨gr, gro + R * 3, none⟩) else if jz = 58 then .pointer (some ⟨gr, gro + R * 3 + 2, none⟩) else v jz), rfl, ⟨(fun h => hR.st (upd_false h)), hR.f0.k rfl, hR.f1.k rfl, hR.f2.k rfl, hR.f3.k rfl, hR.f4.k rfl, hR.f5.k rfl, hR.f6.k rfl, hR.f7.k rfl, hR.f8.k rfl, (fun _ => rfl), (fun _ => rfl), hR.f11.k rfl, hR.f12.k rfl, hR.x13.keepM rfl (fun h hx => h (upd_false hx)), hR.x14.keepM rfl (fun h hx => h (upd_false hx)), hR.f15.k rfl, hR.s1.k rfl, hR.w1.o rfl, hR.w3.o rfl, hR.w4.o rfl, hR.w6.o rfl, hR.w8.o rfl, hR.w9.o rfl, (fun _ j hj => upd_on (hw j hj)), hR.w11.o rfl, hR.w12.o rfl, hR.w13.o rfl, hR.w14.o rfl, hR.w16.o rfl⟩⟩
        refine EachOf.cons [10] rfl (by kernel_rfl) ?_ ?_
        · rintro L A W ⟨v, rfl, hR⟩ hi hw K hK
          have hk : L 14 = false := hR.w14.not (hR.w13.not (hR.w12.not hi rfl) rfl) rfl
          have e10 := hR.f10 (hw 10 (by simp))
          simp only [e10]
          clear e10
          have q0 := ((hR.st hk).cell (p := ⟨gr, gro + R * 3 + 2, none⟩) LR2.out.2).trans LR2.out.1
          go_simp
          refine hK.out _ _ ?_
          exact ⟨(fun jz => if jz = 58 then .pointer (some ⟨gr, gro + R * 3 + 2, none⟩) else if jz = 59 then .int .i64 rt else v jz), rfl, ⟨(fun h => hR.st (upd_false h)), hR.f0.k rfl, hR.f1.k rfl, hR.f2.k rfl, hR.f3.k rfl, hR.f4.k rfl, hR.f5.k rfl, hR.f6.k rfl, hR.f7.k rfl, hR.f8.k rfl, hR.f9.k rfl, (fun _ => rfl), (fun _ => rfl), hR.f12.k rfl, hR.x13.keepM rfl (fun h hx => h (upd_false hx)), hR.x14.keepM rfl (fun h hx => h (upd_false hx)), hR.f15.k rfl, hR.s1.k rfl, hR.w1.o rfl, hR.w3.o rfl, hR.w4.o rfl, hR.w6.o rfl, hR.w8.o rfl, hR.w9.o rfl, hR.w10.o rfl, (fun _ j hj => upd_on (hw j hj)), hR.w12.o rfl, hR.w13.o rfl, hR.w14.o rfl, hR.w16.o rfl⟩⟩
        refine EachOf.cons [4, 11] rfl (by kernel_rfl) ?_ ?_
        · rintro L A W ⟨v, rfl, hR⟩ hi hw K hK
          have hk : L 14 = false := hR.w14.not (hR.w13.not hi rfl) rfl
          have e4 := hR.f4 (hw 4 (by simp))
          have e11 := hR.f11 (hw 11 (by simp))
          simp only [e4, e11]
          clear e4 e11
          go_simp
          refine hK.out _ _ ?_
          exact ⟨(fun jz => if jz = 52 then .int .i64 ns else if jz = 59 then .int .i64 rt else if jz = 60 then .int .i64 z else v jz), rfl, ⟨(fun h => hR.st (upd_false h)), hR.f0.k rfl, hR.f1.k rfl, hR.f2.k rfl, hR.f3.k rfl, (fun _ => rfl), hR.f5.k rfl, hR.f6.k rfl, hR.f7.k rfl, hR.f8.k rfl, hR.f9.k rfl, hR.f10.k rfl, (fun _ => rfl), (fun _ => rfl), hR.x13.keepM rfl (fun h hx => h (upd_false hx)), hR.x14.keepM rfl (fun h hx => h (upd_false hx)), hR.f15.k rfl, hR.s1.k rfl, hR.w1.o rfl, hR.w3.o rfl, hR.w4.o rfl, hR.w6.o rfl, hR.w8.o rfl, hR.w9.o rfl, hR.w10.o rfl, hR.w11.o rfl, (fun _ j hj => upd_on (hw j hj)), hR.w13.o rfl, hR.w14.o rfl, hR.w16.o rfl⟩⟩
        refine EachOf.cons [12] rfl (by kernel_rfl) ?_ ?_
        · rintro L A W ⟨v, rfl, hR⟩ hi hw K hK
          have hk : L 14 = false := hR.w14.not hi rfl
          have hk16 : L 16 = false := hR.w16.not hi rfl
          have e12 := hR.f12 (hw 12 (by simp))
          simp only [e12]
          clear e12
          have hb : Below W.heap.size W (W.alloc _) := (Below.refl _ _).alloc (Nat.le_refl _) (Obj.cells #[.int .i64 z] 3)
          go_simp
          refine hK.out _ _ ?_
          exact ⟨(fun jz => if jz = 60 then .int .i64 z else if jz = 61 then .slice (some ⟨W.heap.size, 0, none⟩) 1 1 else v jz), rfl, ⟨(fun _ => below_on (hR.st hk) hb), hR.f0.k rfl, hR.f1.k rfl, hR.f2.k rfl, hR.f3.k rfl, hR.f4.k rfl, hR.f5.k rfl, hR.f6.k rfl, hR.f7.k rfl, hR.f8.k rfl, hR.f9.k rfl, hR.f10.k rfl, hR.f11.k rfl, (fun _ => rfl), (fun _ _ => ⟨W.heap.size, rfl, SlR.new _ _ _⟩), (fun h => absurd (upd_back h rfl) (by simp [hk])), hR.f15.k rfl, (fun h => absurd (upd_back h rfl) (by simp [hk16])), hR.w1.o rfl, hR.w3.o rfl, hR.w4.o rfl, hR.w6.o rfl, hR.w8.o rfl, hR.w9.o rfl, hR.w10.o rfl, hR.w11.o rfl, hR.w12.o rfl, (fun _ j hj => upd_on (hw j hj)), hR.w14.o rfl, hR.w16.o rfl⟩⟩
        refine EachOf.cons [1, 13] rfl (by kernel_rfl) ?_ ?_
        · rintro L A W ⟨v, rfl, hR⟩ hi hw K hK
          have hk : L 14 = false := hi
          have hk16 : L 16 = false := hR.w16.not hi rfl
          have e1 := hR.f1 (hw 1 (by simp))
          simp only [e1]
          clear e1
          obtain ⟨B13, e13, hB13⟩ := hR.x13 (hw 13 (by simp)) hk
          simp only [e13]
          have hb := hR.st hi
          have ho := own_only LO.out (Only.of_below (S := fun _ => False) hb) (fun _ _ q => q)
          simp only [List.getElem_toArray, List.getElem_cons_succ, List.getElem_cons_zero]
          rw [if_pos (show Region.wanted _ _ = true by rfl)]
          refine wp_append_lies W _ _ 22 (by rfl) w.heap.size 3 i0 (.int .i64 0) 1 8 Try.underlying22 HI.out.1 HI.out.2.1 HI.out.2.2.1 HI.out.2.2.2 rfl (by decide) (.slice pa c pc) c _ (by rfl) ho ⟨B13, 0, none⟩ 1 1 [.int .i64 z] (by rfl) rfl (SlR.news hB13) (by intro u hu; simp at hu; subst hu; rfl) (by omega) (by unfold maxLen; omega) (by omega) (Nat.le_trans LB.out hb.size) _ rfl ?_
          intro g cap w1 hown hgrow hat hlt
          refine hK.out _ _ ?_
          exact ⟨(fun jz => if jz = 49 then .slice pa c pc else if jz = 61 then .slice (some ⟨B13, 0, none⟩) 1 1 else if jz = 62 then .slice (some ⟨g, 0, none⟩) (c + 1) cap else v jz), rfl, ⟨(fun h => by simp [upd_self] at h), hR.f0.k rfl, (fun _ => rfl), hR.f2.k rfl, hR.f3.k rfl, hR.f4.k rfl, hR.f5.k rfl, hR.f6.k rfl, hR.f7.k rfl, hR.f8.k rfl, hR.f9.k rfl, hR.f10.k rfl, hR.f11.k rfl, hR.f12.k rfl, (fun _ h => by simp [upd_self] at h), (fun _ _ => AppW.make hb hgrow hown hat hlt), hR.f15.k rfl, (fun h => absurd (upd_back h rfl) (by simp [hk16])), hR.w1.o rfl, hR.w3.o rfl, hR.w4.o rfl, hR.w6.o rfl, hR.w8.o rfl, hR.w9.o rfl, hR.w10.o rfl, hR.w11.o rfl, hR.w12.o rfl, hR.w13.o rfl, (fun _ j hj => upd_on (hw j hj)), hR.w16.o rfl⟩⟩
        refine EachOf.cons [] rfl (by kernel_rfl) ?_ ?_
        · rintro L A W ⟨v, rfl, hR⟩ hi hw K hK
          go_simp
          refine hK.out _ _ ?_
          exact ⟨(fun jz => if jz = 63 then .pointer (some ⟨db, 0, none⟩) else v jz), rfl, ⟨(fun h => hR.st (upd_false h)), hR.f0.k rfl, hR.f1.k rfl, hR.f2.k rfl, hR.f3.k rfl, hR.f4.k rfl, hR.f5.k rfl, hR.f6.k rfl, hR.f7.k rfl, hR.f8.k rfl, hR.f9.k rfl, hR.f10.k rfl, hR.f11.k rfl, hR.f12.k rfl, hR.x13.keepM rfl (fun h hx => h (upd_false hx)), hR.x14.keepM rfl (fun h hx => h (upd_false hx)), (fun _ => rfl), hR.s1.k rfl, hR.w1.o rfl, hR.w3.o rfl, hR.w4.o rfl, hR.w6.o rfl, hR.w8.o rfl, hR.w9.o rfl, hR.w10.o rfl, hR.w11.o rfl, hR.w12.o rfl, hR.w13.o rfl, hR.w14.o rfl, hR.w16.o rfl⟩⟩
        refine EachOf.cons [0, 1, 2, 3, 4, 5, 6, 7, 8, 9, 10, 11, 12, 13, 14, 15] rfl (by kernel_rfl) ?_ ?_
        · rintro L A W ⟨v, rfl, hR⟩ hi hw K hK
          have e15 := hR.f15 (hw 15 (by simp))
          simp only [e15]
          clear e15
          have hA := hR.x14 (hw 14 (by simp)) hi
          obtain ⟨gq, capq, hzz, hcase, hl⟩ := hA.form
          rw [hzz] at hA
          simp only [hzz]
          have qf1 := (hA.only.cell (p := ⟨db, 0, none⟩) LD.out.2 LN.out).trans LD.out.1
          have qf2 := (hA.only.frozen (p := ⟨db, 0, none⟩) LD.out.2 LN.out).trans LF.out
          go_simp
          refine hK.out _ _ ?_
          exact ⟨(fun jz => if jz = 63 then .pointer (some ⟨db, 0, none⟩) else if jz = 62 then .slice (some ⟨gq, 0, none⟩) (c + 1) capq else v jz), rfl, ⟨(fun h => absurd (hw 14 (by simp)) (by simp [upd_false h])), hR.f0.k rfl, hR.f1.k rfl, hR.f2.k rfl, hR.f3.k rfl, hR.f4.k rfl, hR.f5.k rfl, hR.f6.k rfl, hR.f7.k rfl, hR.f8.k rfl, hR.f9.k rfl, hR.f10.k rfl, hR.f11.k rfl, hR.f12.k rfl, (fun _ h => absurd (hw 14 (by simp)) (by simp [upd_false h])), (fun _ h => by simp [upd_self] at h), (fun _ => rfl), (fun _ => ⟨W, gq, capq, hA, rfl⟩), hR.w1.o rfl, hR.w3.o rfl, hR.w4.o rfl, hR.w6.o rfl, hR.w8.o rfl, hR.w9.o rfl, hR.w10.o rfl, hR.w11.o rfl, hR.w12.o rfl, hR.w13.o rfl, hR.w14.o rfl, (fun _ j hj => upd_on (hw j hj))⟩⟩
        exact EachOf.nil
      rintro L A W ⟨v, rfl, hR⟩ hL
      obtain ⟨W5, gq, cap, hA, rfl⟩ := hR.s1 (hL 16 (by simp))
      have hqq : (Value.slice pa c pc).ownBlock = some gq ∨ W2.heap.size ≤ gq := by
        obtain ⟨g2, cap2, h1, h2, h3⟩ := hA.form
        have e4 : gq = g2 := by injection h1 with e1 e2 e3; injection e1 with e1; injection e1
        rw [e4]; exact h2
      have T : Hid (DuI p w.heap.size (W5.setCell ⟨db, 0, none⟩ (.slice (some ⟨gq, 0, none⟩) (c + 1) cap)) xb gb db (.slice sa (shN p) sc) (c + 1) 0 (.slice (some ⟨gq, 0, none⟩) (c + 1) cap) (.slice none 0 0) (fun _ => none) (fun _ => 0) ∧ Below w.heap.size w (W5.setCell ⟨db, 0, none⟩ (.slice (some ⟨gq, 0, none⟩) (c + 1) cap))) :=
        ⟨S2.out.1.pushC HZ.out hA.only hA.own hqq, (S2.out.2.trans (hA.only.below S2.out.2.size (fun q hq => (LO.out.lt q hq).1))).setCell (p := ⟨db, 0, none⟩) S2.out.1.lo.2.2 _⟩
      clear hqq hA hR hL LD LX1 LR2 LO LB LN LF S2 HZ LS0 LS1 wn wm lR lR2
      go_wp2_with fail
      rw [← er]
      go_roundg (shN p - (c + 1))
      case measure => omega
      case rel => exact ⟨c + 1, rfl, rfl, by omega, _, T⟩
    · have e : c = shN p := by omega
      subst e
      have S1 : Hid (DuI p w.heap.size W1 xb gb db (.slice sa (shN p) sc) (shN p) 0 cv (.slice none 0 0) (fun _ => none) (fun _ => 0) ∧ Below w.heap.size w W1) := S
      have q0 := S.out.1.x.2.1
      go_wp2_with fail
      clear q0 S
      go_loopg [68] p.n (fun g s68 wx => ∃ j : Nat, s68 = .int .i64 j ∧ g = p.n - j ∧ j ≤ p.n ∧ ∃ rv P C, Hid (DuI p w.heap.size wx xb gb db (.slice sa (shN p) sc) (shN p) j cv rv P C ∧ Below w.heap.size w wx))
      case atStart => exact ⟨0, rfl, rfl, Nat.zero_le _, _, _, _, S1⟩
      case round =>
        clear S1
        obtain ⟨j, rfl, rfl, hj, rv, P, C, S⟩ := hrel
        rename World => Wm
        by_cases hjl : j < p.n
        · have wkj : IntKind.i64.wrap ((j : Int) + 1) = ((j + 1 : Nat) : Int) := by rw [IntWalk.i64_in _ (by omega)]; omega
          obtain ⟨cg0, co0, ec0, hcg0, hcr0⟩ := (HP.out.on S.out.2).cost (by omega)
          rw [ec0]
          have p1 := hcr0 j hjl
          obtain ⟨cst, hcst⟩ : ∃ x, p.C j = x := ⟨_, rfl⟩
          rw [hcst] at p1
          have HCST := Lib.hid hcst
          clear hcr0 hcst hcg0
          go_upto_region 20 with fail
          clear p1
          rw [← ec0]
          clear ec0
          have hb6 : Below Wm.heap.size Wm (Wm.alloc (Obj.cells #[Value.slice none 0 0, .int .i64 1, .int .i64 cst] 50)) := (Below.refl _ _).alloc (Nat.le_refl _) _
          obtain ⟨wa, hwa⟩ : ∃ W, W = Wm.alloc (Obj.cells #[Value.slice none 0 0, .int .i64 1, .int .i64 cst] 50) := ⟨_, rfl⟩
          obtain ⟨tb, htb⟩ : ∃ x, x = Wm.heap.size := ⟨_, rfl⟩
          rw [← htb, ← hwa]
          have HTB : Hid (Wm.heap.size ≤ tb) := by show _ ≤ _; omega
          have S2 : Hid (Below Wm.heap.size Wm wa ∧ EBlk wa tb (.slice none 0 0) (.int .i64 1) (.int .i64 cst) ∧ wa.ownsRow w.heap.size 3 1 (.slice none 0 0) 0 ((List.range 0).map fun l => Value.int .i64 (duZ p j l)) ∧ ∀ q, (Value.slice none 0 0).ownBlock = some q → Wm.heap.size ≤ q ∧ q ≠ tb) :=
            ⟨by rw [hwa]; exact hb6, by
              rw [hwa, htb]
              exact ⟨by simp, by simp [go_sem], by simp [go_sem], by simp [go_sem], by simp [go_sem], by simp [go_sem], by simp [go_sem]⟩, ⟨by simp, .inl ⟨rfl, rfl⟩⟩, fun q hq => by cases hq⟩
          clear hb6 hwa htb
          go_wp2_with fail
          go_loopg [77] (shN p) (fun g s77 wx => ∃ k : Nat, s77 = .int .i64 k ∧ g = shN p - k ∧ k ≤ shN p ∧ ∃ pv, Hid (Below Wm.heap.size Wm wx ∧ EBlk wx tb pv (.int .i64 1) (.int .i64 cst) ∧ wx.ownsRow w.heap.size 3 1 pv k ((List.range k).map fun l => Value.int .i64 (duZ p j l)) ∧ ∀ q, pv.ownBlock = some q → Wm.heap.size ≤ q ∧ q ≠ tb))
          case atStart => exact ⟨0, rfl, rfl, Nat.zero_le _, _, S2⟩
          case round =>
            clear S2
            obtain ⟨c, rfl, rfl, hc2, pv, S3⟩ := hrel
            rename World => W1
            by_cases hlt : c < shN p
            · have wk : IntKind.i64.wrap ((c : Int) + 1) = ((c + 1 : Nat) : Int) := by rw [IntWalk.i64_in _ (by omega)]; omega
              obtain ⟨pa, pc, hcv⟩ := own_form S3.out.2.2.1
              subst hcv
              obtain ⟨sgb, scap, hse⟩ := own_some (S.out.1.go S3.out.1).s (by omega)
              have hsa : sa = some ⟨sgb, 0, none⟩ := by injection hse
              have hsw := (S.out.1.go S3.out.1).s
              rw [hsa] at hsw
              have hgt := shC_get (shL p p.m) c hlt
              have g0 : W1.cell? ⟨sgb, c * 2, none⟩ = some (.int .i64 (shR p c : Int)) := (hsw.cellAt (c * 2) (by omega)).trans hgt.1
              have g1 : W1.cell? ⟨sgb, c * 2 + 1, none⟩ = some (.int .i64 (shS p c)) := (hsw.cellAt (c * 2 + 1) (by omega)).trans hgt.2
              have HSA := Lib.hid hsa
              rw [hsa]
              clear hse hsw hgt hsa
              have hRk := sh_at hlt
              obtain ⟨gr, gro, er, hgr, hrow⟩ := (HP.out.on (below_on S.out.2 S3.out.1)).rows (by omega)
              have hq3 := (hrow _ hRk.1).1
              have hir := (HP.out.on (below_on S.out.2 S3.out.1)).coef _ hRk.1
              have hzz := HOK.out.z _ hRk.1 j hjl
              rw [HOK.out.l _ hRk.1] at hq3 hir
              have e1 : duZ p j c = shS p c * p.Z (shR p c) j := rfl
              obtain ⟨R, hR⟩ : ∃ x, shR p c = x := ⟨_, rfl⟩
              obtain ⟨sg, hsg⟩ : ∃ x, shS p c = x := ⟨_, rfl⟩
              rw [hR] at hRk hq3 hir hzz e1 g0
              rw [hsg] at hRk e1 g1
              obtain ⟨cg, co, ec, hcg, hcr⟩ := hir (by omega)
              have hq4 := hcr j hjl
              obtain ⟨zc, hzc⟩ : ∃ x, p.Z R j = x := ⟨_, rfl⟩
              rw [hzc] at hzz hq4 e1
              obtain ⟨z, hz⟩ : ∃ x, x = sg * zc := ⟨_, rfl⟩
              have wm : IntKind.i64.wrap (sg * zc) = z := by rw [IntWalk.i64_in _ (by rcases hRk.2 with h | h <;> rw [h.1] <;> omega)]; exact hz.symm
              have HZ : Hid (z = duZ p j c) := by show z = _; rw [e1, hz]
              have lR : (R : Int) < (p.m : Int) := by omega
              have lR2 := hRk.1
              have lj : (j : Int) < (p.n : Int) := by omega
              have HQ3 := Lib.hid (And.intro hq3 hgr)
              have HQ4 := Lib.hid (And.intro hq4 hcg)
              have HEC := Lib.hid ec
              clear hrow hRk hzz hq3 hq4 hgr hcg hcr hir e1 hR hsg hzc hz ec
              rw [er]
              go_upto_region 23 with fail
              have hb6 : Below W1.heap.size W1 (W1.alloc (Obj.cells #[.int .i64 (R : Int), .int .i64 sg] 63)) := (Below.refl _ _).alloc (Nat.le_refl _) _
              obtain ⟨W2, hW2⟩ : ∃ W, W = W1.alloc (Obj.cells #[.int .i64 (R : Int), .int .i64 sg] 63) := ⟨_, rfl⟩
              obtain ⟨sb, hsb⟩ : ∃ x, x = W1.heap.size := ⟨_, rfl⟩
              rw [← hsb, ← hW2]
              have LS0 : Hid (W2.cell? ⟨sb, 0, none⟩ = some (.int .i64 (R : Int)) ∧ sb < W2.heap.size) := by rw [hW2, hsb]; exact ⟨by simp [go_sem], by simp⟩
              have LS1 : Hid (W2.cell? ⟨sb, 1, none⟩ = some (.int .i64 sg) ∧ sb < W2.heap.size) := by rw [hW2, hsb]; exact ⟨by simp [go_sem], by simp⟩
              have HB2 : Hid (Below W1.heap.size W1 W2) := by rw [hW2]; exact hb6
              clear hb6 hW2 hsb g0 g1
              rw [← HSA.out]
              have hbm := below_on S3.out.1 HB2.out
              have LD : Hid (W2.cell? ⟨tb, 0, none⟩ = some (.slice pa c pc) ∧ tb < W2.heap.size) := ⟨(S3.out.2.1.on HB2.out).c0, (S3.out.2.1.on HB2.out).hb⟩
              have LX1 : Hid (W2.cell? ⟨xb, 1, none⟩ = some (.slice (some ⟨gr, gro, none⟩) p.m p.rc) ∧ xb < W2.heap.size) := ⟨by rw [← er]; exact (S.out.1.go hbm).x.2.2, (S.out.1.go hbm).x.1⟩
              have LR2 : Hid (W2.cell? ⟨gr, gro + R * 3, none⟩ = some (.slice (some ⟨cg, co, none⟩) p.n (p.Kc R)) ∧ gr < W2.heap.size) := ⟨by rw [← HEC.out]; exact (HB2.out.cell (p := ⟨gr, gro + R * 3, none⟩) HQ3.out.2).trans HQ3.out.1, Nat.lt_of_lt_of_le HQ3.out.2 HB2.out.size⟩
              have LZ : Hid (W2.cell? ⟨cg, co + j, none⟩ = some (.int .i64 zc) ∧ cg < W2.heap.size) := ⟨(HB2.out.cell (p := ⟨cg, co + j, none⟩) HQ4.out.2).trans HQ4.out.1, Nat.lt_of_lt_of_le HQ4.out.2 HB2.out.size⟩
              have LO : Hid (W2.ownsRow w.heap.size 3 1 (.slice pa c pc) c ((List.range c).map fun l => Value.int .i64 (duZ p j l))) := own_only S3.out.2.2.1 (Only.of_below (S := fun _ => False) HB2.out) (fun _ _ q => q)
              have LB : Hid (w.heap.size ≤ W2.heap.size) := Nat.le_trans S.out.2.size hbm.size
              have LN : Hid (¬ (Value.slice pa c pc).ownBlock = some tb) := fun e => ((S3.out.2.2.2 tb e).2 rfl)
              have LF : Hid (W2.frozen? ⟨tb, 0, none⟩ = false) := (S3.out.2.1.on HB2.out).f0
              have S4 := Lib.hid (And.intro hbm (And.intro (S3.out.2.1.on HB2.out) S3.out.2.2.2))
              clear S3 HQ3 HQ4 HB2 hbm
              refine wp_region_each (fun L A W => ∃ (v : Nat → Value), A = ⟨#[_, _, _, _, _, _, _, _, _, _, _, _, _, _, _, _, _, _, _, _, _, _, _, _, _, _, _, _, _, _, _, _, _, _, _, _, _, _, _, _, _, _, _, _, _, _, _, _, _, _, _, _, _, _, _, _, _, _, _, _, _, _, _, _, _, _, _, _, _, _, _, _, _, _, _, _, _, _, _, _, _, v 81, v 82, v 83, v 84, v 85, v 86, v 87, v 88, v 89, v 90, v 91, v 92, v 93, v 94, v 95, v 96, v 97, v 98, _, _, _, _, _, _, _, _, _], []⟩ ∧ DuBR tb sb xb gr gro R cg co j c pc p.m p.rc p.n (p.Kc R) w.heap.size pa (duZ p j) zc sg z W2 L v W) (by kernel_rfl) (by kernel_rfl) ⟨fun jz => if jz = 81 then u81 else if jz = 82 then u82 else if jz = 83 then u83 else if jz = 84 then u84 else if jz = 85 then u85 else if jz = 86 then u86 else if jz = 87 then u87 else if jz = 88 then u88 else if jz = 89 then u89 else if jz = 90 then u90 else if jz = 91 then u91 else if jz = 92 then u92 else if jz = 93 then u93 else if jz = 94 then u94 else if jz = 95 then u95 else if jz = 96 then u96 else if jz = 97 then u97 else if jz = 98 then u98 else undef, rfl, ⟨(fun _ => Below.drew (Below.refl _ _)), Had.none, Had.none, Had.none, Had.none, Had.none, Had.none, Had.none, Had.none, Had.none, Had.none, Had.none, Had.none, Had.none, Had.none, Had.none, Had.none, Had.none, Had.none, Had.none, Had.none, Had.none, Had.none, Had.none, Had.none, Had.none, Had.none, Had.none, Had.none, Had.none, Had.none, Had.none, Had.none⟩⟩ (rs := [0, 1, 2, 3, 4, 5, 6, 7, 8, 9, 10, 11, 12, 13, 14, 15, 16, 17, 18]) (by kernel_rfl) ?_ ?_
              · refine EachOf.cons [] rfl (by kernel_rfl) ?_ ?_
                · rintro L A W ⟨v, rfl, hR⟩ hi hw K hK
                  have hk : L 16 = false := hR.w16.not (hR.w1.not hi rfl) rfl
                  go_simp
                  refine hK.out _ _ ?_
                  exact ⟨(fun jz => if jz = 81 then .pointer (some ⟨tb, 0, none⟩) else v jz), rfl, ⟨(fun h => hR.st (upd_false h)), (fun _ => rfl), hR.f1.k rfl, hR.f2.k rfl, hR.f3.k rfl, hR.f4.k rfl, hR.f5.k rfl, hR.f6.k rfl, hR.f7.k rfl, hR.f8.k rfl, hR.f9.k rfl, hR.f10.k rfl, hR.f11.k rfl, hR.f12.k rfl, hR.f13.k rfl, hR.f14.k rfl, hR.x15.keepM rfl (fun h hx => h (upd_false hx)), hR.x16.keepM rfl (fun h hx => h (upd_false hx)), hR.f17.k rfl, hR.s1.k rfl, hR.w1.o rfl, hR.w3.o rfl, hR.w5.o rfl, hR.w7.o rfl, hR.w8.o rfl, hR.w9.o rfl, hR.w10.o rfl, hR.w12.o rfl, hR.w13.o rfl, hR.w14.o rfl, hR.w15.o rfl, hR.w16.o rfl, hR.w18.o rfl⟩⟩
                refine EachOf.cons [0] rfl (by kernel_rfl) ?_ ?_
                · rintro L A W ⟨v, rfl, hR⟩ hi hw K hK
                  have hk : L 16 = false := hR.w16.not hi rfl
                  have e0 := hR.f0 (hw 0 (by simp))
                  simp only [e0]
                  clear e0
                  have q0 := ((hR.st hk).cell (p := ⟨tb, 0, none⟩) LD.out.2).trans LD.out.1
                  go_simp
                  refine hK.out _ _ ?_
                  exact ⟨(fun jz => if jz = 81 then .pointer (some ⟨tb, 0, none⟩) else if jz = 82 then .slice pa c pc else v jz), rfl, ⟨(fun h => hR.st (upd_false h)), (fun _ => rfl), (fun _ => rfl), hR.f2.k rfl, hR.f3.k rfl, hR.f4.k rfl, hR.f5.k rfl, hR.f6.k rfl, hR.f7.k rfl, hR.f8.k rfl, hR.f9.k rfl, hR.f10.k rfl, hR.f11.k rfl, hR.f12.k rfl, hR.f13.k rfl, hR.f14.k rfl, hR.x15.keepM rfl (fun h hx => h (upd_false hx)), hR.x16.keepM rfl (fun h hx => h (upd_false hx)), hR.f17.k rfl, hR.s1.k rfl, (fun _ j hj => upd_on (hw j hj)), hR.w3.o rfl, hR.w5.o rfl, hR.w7.o rfl, hR.w8.o rfl, hR.w9.o rfl, hR.w10.o rfl, hR.w12.o rfl, hR.w13.o rfl, hR.w14.o rfl, hR.w15.o rfl, hR.w16.o rfl, hR.w18.o rfl⟩⟩
                refine EachOf.cons [] rfl (by kernel_rfl) ?_ ?_
                · rintro L A W ⟨v, rfl, hR⟩ hi hw K hK
                  have hk : L 16 = false := hR.w16.not (hR.w15.not (hR.w14.not (hR.w3.not hi rfl) rfl) rfl) rfl
                  go_simp
                  refine hK.out _ _ ?_
                  exact ⟨(fun jz => if jz = 83 then .pointer (some ⟨sb, 1, none⟩) else v jz), rfl, ⟨(fun h => hR.st (upd_false h)), hR.f0.k rfl, hR.f1.k rfl, (fun _ => rfl), hR.f3.k rfl, hR.f4.k rfl, hR.f5.k rfl, hR.f6.k rfl, hR.f7.k rfl, hR.f8.k rfl, hR.f9.k rfl, hR.f10.k rfl, hR.f11.k rfl, hR.f12.k rfl, hR.f13.k rfl, hR.f14.k rfl, hR.x15.keepM rfl (fun h hx => h (upd_false hx)), hR.x16.keepM rfl (fun h hx => h (upd_false hx)), hR.f17.k rfl, hR.s1.k rfl, hR.w1.o rfl, hR.w3.o rfl, hR.w5.o rfl, hR.w7.o rfl, hR.w8.o rfl, hR.w9.o rfl, hR.w10.o rfl, hR.w12.o rfl, hR.w13.o rfl, hR.w14.o rfl, hR.w15.o rfl, hR.w16.o rfl, hR.w18.o rfl⟩⟩
                refine EachOf.cons [2] rfl (by kernel_rfl) ?_ ?_
                · rintro L A W ⟨v, rfl, hR⟩ hi hw K hK
                  have hk : L 16 = false := hR.w16.not (hR.w15.not (hR.w14.not hi rfl) rfl) rfl
                  have e2 := hR.f2 (hw 2 (by simp))
                  simp only [e2]
                  clear e2
                  have q0 := ((hR.st hk).cell (p := ⟨sb, 1, none⟩) LS1.out.2).trans LS1.out.1
                  go_simp
                  refine hK.out _ _ ?_
                  exact ⟨(fun jz => if jz = 83 then .pointer (some ⟨sb, 1, none⟩) else if jz = 84 then .int .i64 sg else v jz), rfl, ⟨(fun h => hR.st (upd_false h)), hR.f0.k rfl, hR.f1.k rfl, (fun _ => rfl), (fun _ => rfl), hR.f4.k rfl, hR.f5.k rfl, hR.f6.k rfl, hR.f7.k rfl, hR.f8.k rfl, hR.f9.k rfl, hR.f10.k rfl, hR.f11.k rfl, hR.f12.k rfl, hR.f13.k rfl, hR.f14.k rfl, hR.x15.keepM rfl (fun h hx => h (upd_false hx)), hR.x16.keepM rfl (fun h hx => h (upd_false hx)), hR.f17.k rfl, hR.s1.k rfl, hR.w1.o rfl, (fun _ j hj => upd_on (hw j hj)), hR.w5.o rfl, hR.w7.o rfl, hR.w8.o rfl, hR.w9.o rfl, hR.w10.o rfl, hR.w12.o rfl, hR.w13.o rfl, hR.w14.o rfl, hR.w15.o rfl, hR.w16.o rfl, hR.w18.o rfl⟩⟩
                refine EachOf.cons [] rfl (by kernel_rfl) ?_ ?_
                · rintro L A W ⟨v, rfl, hR⟩ hi hw K hK
                  have hk : L 16 = false := hR.w16.not (hR.w15.not (hR.w14.not (hR.w13.not (hR.w12.not (hR.w10.not (hR.w9.not (hR.w8.not (hR.w5.not hi rfl) rfl) rfl) rfl) rfl) rfl) rfl) rfl) rfl
                  go_simp
                  refine hK.out _ _ ?_
                  exact ⟨(fun jz => if jz = 85 then .pointer (some ⟨xb, 1, none⟩) else v jz), rfl, ⟨(fun h => hR.st (upd_false h)), hR.f0.k rfl, hR.f1.k rfl, hR.f2.k rfl, hR.f3.k rfl, (fun _ => rfl), hR.f5.k rfl, hR.f6.k rfl, hR.f7.k rfl, hR.f8.k rfl, hR.f9.k rfl, hR.f10.k rfl, hR.f11.k rfl, hR.f12.k rfl, hR.f13.k rfl, hR.f14.k rfl, hR.x15.keepM rfl (fun h hx => h (upd_false hx)), hR.x16.keepM rfl (fun h hx => h (upd_false hx)), hR.f17.k rfl, hR.s1.k rfl, hR.w1.o rfl, hR.w3.o rfl, hR.w5.o rfl, hR.w7.o rfl, hR.w8.o rfl, hR.w9.o rfl, hR.w10.o rfl, hR.w12.o rfl, hR.w13.o rfl, hR.w14.o rfl, hR.w15.o rfl, hR.w16.o rfl, hR.w18.o rfl⟩⟩
                refine EachOf.cons [4] rfl (by kernel_rfl) ?_ ?_
                · rintro L A W ⟨v, rfl, hR⟩ hi hw K hK
                  have hk : L 16 = false := hR.w16.not (hR.w15.not (hR.w14.not (hR.w13.not (hR.w12.not (hR.w10.not (hR.w9.not (hR.w8.not hi rfl) rfl) rfl) rfl) rfl) rfl) rfl) rfl
                  have e4 := hR.f4 (hw 4 (by simp))
                  simp only [e4]
                  clear e4
                  have q0 := ((hR.st hk).cell (p := ⟨xb, 1, none⟩) LX1.out.2).trans LX1.out.1
                  go_simp
                  refine hK.out _ _ ?_
                  exact ⟨(fun jz => if jz = 85 then .pointer (some ⟨xb, 1, none⟩) else if jz = 86 then .slice (some ⟨gr, gro, none⟩) (p.m) (p.rc) else v jz), rfl, ⟨(fun h => hR.st (upd_false h)), hR.f0.k rfl, hR.f1.k rfl, hR.f2.k rfl, hR.f3.k rfl, (fun _ => rfl), (fun _ => rfl), hR.f6.k rfl, hR.f7.k rfl, hR.f8.k rfl, hR.f9.k rfl, hR.f10.k rfl, hR.f11.k rfl, hR.f12.k rfl, hR.f13.k rfl, hR.f14.k rfl, hR.x15.keepM rfl (fun h hx => h (upd_false hx)), hR.x16.keepM rfl (fun h hx => h (upd_false hx)), hR.f17.k rfl, hR.s1.k rfl, hR.w1.o rfl, hR.w3.o rfl, (fun _ j hj => upd_on (hw j hj)), hR.w7.o rfl, hR.w8.o rfl, hR.w9.o rfl, hR.w10.o rfl, hR.w12.o rfl, hR.w13.o rfl, hR.w14.o rfl, hR.w15.o rfl, hR.w16.o rfl, hR.w18.o rfl⟩⟩
                refine EachOf.cons [] rfl (by kernel_rfl) ?_ ?_
                · rintro L A W ⟨v, rfl, hR⟩ hi hw K hK
                  have hk : L 16 = false := hR.w16.not (hR.w15.not (hR.w14.not (hR.w13.not (hR.w12.not (hR.w10.not (hR.w9.not (hR.w8.not (hR.w7.not hi rfl) rfl) rfl) rfl) rfl) rfl) rfl) rfl) rfl
                  go_simp
                  refine hK.out _ _ ?_
                  exact ⟨(fun jz => if jz = 87 then .pointer (some ⟨sb, 0, none⟩) else v jz), rfl, ⟨(fun h => hR.st (upd_false h)), hR.f0.k rfl, hR.f1.k rfl, hR.f2.k rfl, hR.f3.k rfl, hR.f4.k rfl, hR.f5.k rfl, (fun _ => rfl), hR.f7.k rfl, hR.f8.k rfl, hR.f9.k rfl, hR.f10.k rfl, hR.f11.k rfl, hR.f12.k rfl, hR.f13.k rfl, hR.f14.k rfl, hR.x15.keepM rfl (fun h hx => h (upd_false hx)), hR.x16.keepM rfl (fun h hx => h (upd_false hx)), hR.f17.k rfl, hR.s1.k rfl, hR.w1.o rfl, hR.w3.o rfl, hR.w5.o rfl, hR.w7.o rfl, hR.w8.o rfl, hR.w9.o rfl, hR.w10.o rfl, hR.w12.o rfl, hR.w13.o rfl, hR.w14.o rfl, hR.w15.o rfl, hR.w16.o rfl, hR.w18.o rfl⟩⟩
                refine EachOf.cons [6] rfl (by kernel_rfl) ?_ ?_
                · rintro L A W ⟨v, rfl, hR⟩ hi hw K hK
                  have hk : L 16 = false := hR.w16.not (hR.w15.not (hR.w14.not (hR.w13.not (hR.w12.not (hR.w10.not (hR.w9.not (hR.w8.not hi rfl) rfl) rfl) rfl) rfl) rfl) rfl) rfl
                  have e6 := hR.f6 (hw 6 (by simp))
                  simp only [e6]
                  clear e6
                  have q0 := ((hR.st hk).cell (p := ⟨sb, 0, none⟩) LS0.out.2).trans LS0.out.1
                  go_simp
                  refine hK.out _ _ ?_
                  exact ⟨(fun jz => if jz = 87 then .pointer (some ⟨sb, 0, none⟩) else if jz = 88 then .int .i64 (R : Int) else v jz), rfl, ⟨(fun h => hR.st (upd_false h)), hR.f0.k rfl, hR.f1.k rfl, hR.f2.k rfl, hR.f3.k rfl, hR.f4.k rfl, hR.f5.k rfl, (fun _ => rfl), (fun _ => rfl), hR.f8.k rfl, hR.f9.k rfl, hR.f10.k rfl, hR.f11.k rfl, hR.f12.k rfl, hR.f13.k rfl, hR.f14.k rfl, hR.x15.keepM rfl (fun h hx => h (upd_false hx)), hR.x16.keepM rfl (fun h hx => h (upd_false hx)), hR.f17.k rfl, hR.s1.k rfl, hR.w1.o rfl, hR.w3.o rfl, hR.w5.o rfl, (fun _ j hj => upd_on (hw j hj)), hR.w8.o rfl, hR.w9.o rfl, hR.w10.o rfl, hR.w12.o rfl, hR.w13.o rfl, hR.w14.o rfl, hR.w15.o rfl, hR.w16.o rfl, hR.w18.o rfl⟩⟩
                refine EachOf.cons [5, 7] rfl (by kernel_rfl) ?_ ?_
                · rintro L A W ⟨v, rfl, hR⟩ hi hw K hK
                  have hk : L 16 = false := hR.w16.not (hR.w15.not (hR.w14.not (hR.w13.not (hR.w12.not (hR.w10.not (hR.w9.not hi rfl) rfl) rfl) rfl) rfl) rfl) rfl
                  have e5 := hR.f5 (hw 5 (by simp))
                  have e7 := hR.f7 (hw 7 (by simp))
                  simp only [e5, e7]
                  clear e5 e7
                  go_simp
                  refine hK.out _ _ ?_
                  exact ⟨(fun jz => if jz = 86 then .slice (some ⟨gr, gro, none⟩) (p.m) (p.rc) else if jz = 88 then .int .i64 (R : Int) else if jz = 89 then .pointer (some ⟨gr, gro + R * 3, none⟩) else v jz), rfl, ⟨(fun h => hR.st (upd_false h)), hR.f0.k rfl, hR.f1.k rfl, hR.f2.k rfl, hR.f3.k rfl, hR.f4.k rfl, (fun _ => rfl), hR.f6.k rfl, (fun _ => rfl), (fun _ => rfl), hR.f9.k rfl, hR.f10.k rfl, hR.f11.k rfl, hR.f12.k rfl, hR.f13.k rfl, hR.f14.k rfl, hR.x15.keepM rfl (fun h hx => h (upd_false hx)), hR.x16.keepM rfl (fun h hx => h (upd_false hx)), hR.f17.k rfl, hR.s1.k rfl, hR.w1.o rfl, hR.w3.o rfl, hR.w5.o rfl, hR.w7.o rfl, (fun _ j hj => upd_on (hw j hj)), hR.w9.o rfl, hR.w10.o rfl, hR.w12.o rfl, hR.w13.o rfl, hR.w14.o rfl, hR.w15.o rfl, hR.w16.o rfl, hR.w18.o rfl⟩⟩
                refine EachOf.cons [8] rfl (by kernel_rfl) ?_ ?_
                · rintro L A W ⟨v, rfl, hR⟩ hi hw K hK
                  have hk : L 16 = false := hR.w16.not (hR.w15.not (hR.w14.not (hR.w13.not (hR.w12.not (hR.w10.not hi rfl) rfl) rfl) rfl) rfl) rfl
                  have e8 := hR.f8 (hw 8 (by simp))
                  simp only [e8]
                  clear e8
                  go_simp
                  refine hK.out _ _ ?_
                  exact ⟨(fun jz => if jz = 89 then .pointer (some ⟨gr, gro + R * 3, none⟩) else if jz = 90 then .pointer (some ⟨gr, gro + R * 3, none⟩) else v jz), rfl, ⟨(fun h => hR.st (upd_false h)), hR.f0.k rfl, hR.f1.k rfl, hR.f2.k rfl, hR.f3.k rfl, hR.f4.k rfl, hR.f5.k rfl, hR.f6.k rfl, hR.f7.k rfl, (fun _ => rfl), (fun _ => rfl), hR.f10.k rfl, hR.f11.k rfl, hR.f12.k rfl, hR.f13.k rfl, hR.f14.k rfl, hR.x15.keepM rfl (fun h hx => h (upd_false hx)), hR.x16.keepM rfl (fun h hx => h (upd_false hx)), hR.f17.k rfl, hR.s1.k rfl, hR.w1.o rfl, hR.w3.o rfl, hR.w5.o rfl, hR.w7.o rfl, hR.w8.o rfl, (fun _ j hj => upd_on (hw j hj)), hR.w10.o rfl, hR.w12.o rfl, hR.w13.o rfl, hR.w14.o rfl, hR.w15.o rfl, hR.w16.o rfl, hR.w18.o rfl⟩⟩
                refine EachOf.cons [9] rfl (by kernel_rfl) ?_ ?_
                · rintro L A W ⟨v, rfl, hR⟩ hi hw K hK
                  have hk : L 16 = false := hR.w16.not (hR.w15.not (hR.w14.not (hR.w13.not (hR.w12.not hi rfl) rfl) rfl) rfl) rfl
                  have e9 := hR.f9 (hw 9 (by simp))
                  simp only [e9]
                  clear e9
                  have q0 := ((hR.st hk).cell (p := ⟨gr, gro + R * 3, none⟩) LR2.out.2).trans LR2.out.1
                  go_simp
                  refine hK.out _ _ ?_
                  exact ⟨(fun jz => if jz = 90 then .pointer (some ⟨gr, gro + R * 3, none⟩) else if jz = 91 then .slice (some ⟨cg, co, none⟩) (p.n) ((p.Kc R)) else v jz), rfl, ⟨(fun h => hR.st (upd_false h)), hR.f0.k rfl, hR.f1.k rfl, hR.f2.k rfl, hR.f3.k rfl, hR.f4.k rfl, hR.f5.k rfl, hR.f6.k rfl, hR.f7.k rfl, hR.f8.k rfl, (fun _ => rfl), (fun _ => rfl), hR.f11.k rfl, hR.f12.k rfl, hR.f13.k rfl, hR.f14.k rfl, hR.x15.keepM rfl (fun h hx => h (upd_false hx)), hR.x16.keepM rfl (fun h hx => h (upd_false hx)), hR.f17.k rfl, hR.s1.k rfl, hR.w1.o rfl, hR.w3.o rfl, hR.w5.o rfl, hR.w7.o rfl, hR.w8.o rfl, hR.w9.o rfl, (fun _ j hj => upd_on (hw j hj)), hR.w12.o rfl, hR.w13.o rfl, hR.w14.o rfl, hR.w15.o rfl, hR.w16.o rfl, hR.w18.o rfl⟩⟩
                refine EachOf.cons [] rfl (by kernel_rfl) ?_ ?_
                · rintro L A W ⟨v, rfl, hR⟩ hi hw K hK
                  have hk : L 16 = false := hR.w16.not (hR.w15.not (hR.w14.not (hR.w13.not (hR.w12.not hi rfl) rfl) rfl) rfl) rfl
                  go_simp
                  refine hK.out _ _ ?_
                  exact ⟨(fun jz => if jz = 92 then .int .i64 (j : Int) else v jz), rfl, ⟨(fun h => hR.st (upd_false h)), hR.f0.k rfl, hR.f1.k rfl, hR.f2.k rfl, hR.f3.k rfl, hR.f4.k rfl, hR.f5.k rfl, hR.f6.k rfl, hR.f7.k rfl, hR.f8.k rfl, hR.f9.k rfl, hR.f10.k rfl, (fun _ => rfl), hR.f12.k rfl, hR.f13.k rfl, hR.f14.k rfl, hR.x15.keepM rfl (fun h hx => h (upd_false hx)), hR.x16.keepM rfl (fun h hx => h (upd_false hx)), hR.f17.k rfl, hR.s1.k rfl, hR.w1.o rfl, hR.w3.o rfl, hR.w5.o rfl, hR.w7.o rfl, hR.w8.o rfl, hR.w9.o rfl, hR.w10.o rfl, hR.w12.o rfl, hR.w13.o rfl, hR.w14.o rfl, hR.w15.o rfl, hR.w16.o rfl, hR.w18.o rfl⟩⟩
                refine EachOf.cons [10, 11] rfl (by kernel_rfl) ?_ ?_
                · rintro L A W ⟨v, rfl, hR⟩ hi hw K hK
                  have hk : L 16 = false := hR.w16.not (hR.w15.not (hR.w14.not (hR.w13.not hi rfl) rfl) rfl) rfl
                  have e10 := hR.f10 (hw 10 (by simp))
                  have e11 := hR.f11 (hw 11 (by simp))
                  simp only [e10, e11]
                  clear e10 e11
                  go_simp
                  refine hK.out _ _ ?_
                  exact ⟨(fun jz => if jz = 91 then .slice (some ⟨cg, co, none⟩) (p.n) ((p.Kc R)) else if jz = 92 then .int .i64 (j : Int) else if jz = 93 then .pointer (some ⟨cg, co + j, none⟩) else v jz), rfl, ⟨(fun h => hR.st (upd_false h)), hR.f0.k rfl, hR.f1.k rfl, hR.f2.k rfl, hR.f3.k rfl, hR.f4.k rfl, hR.f5.k rfl, hR.f6.k rfl, hR.f7.k rfl, hR.f8.k rfl, hR.f9.k rfl, (fun _ => rfl), (fun _ => rfl), (fun _ => rfl), hR.f13.k rfl, hR.f14.k rfl, hR.x15.keepM rfl (fun h hx => h (upd_false hx)), hR.x16.keepM rfl (fun h hx => h (upd_false hx)), hR.f17.k rfl, hR.s1.k rfl, hR.w1.o rfl, hR.w3.o rfl, hR.w5.o rfl, hR.w7.o rfl, hR.w8.o rfl, hR.w9.o rfl, hR.w10.o rfl, (fun _ j hj => upd_on (hw j hj)), hR.w13.o rfl, hR.w14.o rfl, hR.w15.o rfl, hR.w16.o rfl, hR.w18.o rfl⟩⟩
                refine EachOf.cons [12] rfl (by kernel_rfl) ?_ ?_
                · rintro L A W ⟨v, rfl, hR⟩ hi hw K hK
                  have hk : L 16 = false := hR.w16.not (hR.w15.not (hR.w14.not hi rfl) rfl) rfl
                  have e12 := hR.f12 (hw 12 (by simp))
                  simp only [e12]
                  clear e12
                  have q0 := ((hR.st hk).cell (p := ⟨cg, co + j, none⟩) LZ.out.2).trans LZ.out.1
                  go_simp
                  refine hK.out _ _ ?_
                  exact ⟨(fun jz => if jz = 93 then .pointer (some ⟨cg, co + j, none⟩) else if jz = 94 then .int .i64 zc else v jz), rfl, ⟨(fun h => hR.st (upd_false h)), hR.f0.k rfl, hR.f1.k rfl, hR.f2.k rfl, hR.f3.k rfl, hR.f4.k rfl, hR.f5.k rfl, hR.f6.k rfl, hR.f7.k rfl, hR.f8.k rfl, hR.f9.k rfl, hR.f10.k rfl, hR.f11.k rfl, (fun _ => rfl), (fun _ => rfl), hR.f14.k rfl, hR.x15.keepM rfl (fun h hx => h (upd_false hx)), hR.x16.keepM rfl (fun h hx => h (upd_false hx)), hR.f17.k rfl, hR.s1.k rfl, hR.w1.o rfl, hR.w3.o rfl, hR.w5.o rfl, hR.w7.o rfl, hR.w8.o rfl, hR.w9.o rfl, hR.w10.o rfl, hR.w12.o rfl, (fun _ j hj => upd_on (hw j hj)), hR.w14.o rfl, hR.w15.o rfl, hR.w16.o rfl, hR.w18.o rfl⟩⟩
                refine EachOf.cons [3, 13] rfl (by kernel_rfl) ?_ ?_
                · rintro L A W ⟨v, rfl, hR⟩ hi hw K hK
                  have hk : L 16 = false := hR.w16.not (hR.w15.not hi rfl) rfl
                  have e3 := hR.f3 (hw 3 (by simp))
                  have e13 := hR.f13 (hw 13 (by simp))
                  simp only [e3, e13]
                  clear e3 e13
                  go_simp
                  refine hK.out _ _ ?_
                  exact ⟨(fun jz => if jz = 84 then .int .i64 sg else if jz = 94 then .int .i64 zc else if jz = 95 then .int .i64 z else v jz), rfl, ⟨(fun h => hR.st (upd_false h)), hR.f0.k rfl, hR.f1.k rfl, hR.f2.k rfl, (fun _ => rfl), hR.f4.k rfl, hR.f5.k rfl, hR.f6.k rfl, hR.f7.k rfl, hR.f8.k rfl, hR.f9.k rfl, hR.f10.k rfl, hR.f11.k rfl, hR.f12.k rfl, (fun _ => rfl), (fun _ => rfl), hR.x15.keepM rfl (fun h hx => h (upd_false hx)), hR.x16.keepM rfl (fun h hx => h (upd_false hx)), hR.f17.k rfl, hR.s1.k rfl, hR.w1.o rfl, hR.w3.o rfl, hR.w5.o rfl, hR.w7.o rfl, hR.w8.o rfl, hR.w9.o rfl, hR.w10.o rfl, hR.w12.o rfl, hR.w13.o rfl, (fun _ j hj => upd_on (hw j hj)), hR.w15.o rfl, hR.w16.o rfl, hR.w18.o rfl⟩⟩
                refine EachOf.cons [14] rfl (by kernel_rfl) ?_ ?_
                · rintro L A W ⟨v, rfl, hR⟩ hi hw K hK
                  have hk : L 16 = false := hR.w16.not hi rfl
                  have hk18 : L 18 = false := hR.w18.not hi rfl
                  have e14 := hR.f14 (hw 14 (by simp))
                  simp only [e14]
                  clear e14
                  have hb : Below W.heap.size W (W.alloc _) := (Below.refl _ _).alloc (Nat.le_refl _) (Obj.cells #[.int .i64 z] 3)
                  go_simp
                  refine hK.out _ _ ?_
                  exact ⟨(fun jz => if jz = 95 then .int .i64 z else if jz = 96 then .slice (some ⟨W.heap.size, 0, none⟩) 1 1 else v jz), rfl, ⟨(fun _ => below_on (hR.st hk) hb), hR.f0.k rfl, hR.f1.k rfl, hR.f2.k rfl, hR.f3.k rfl, hR.f4.k rfl, hR.f5.k rfl, hR.f6.k rfl, hR.f7.k rfl, hR.f8.k rfl, hR.f9.k rfl, hR.f10.k rfl, hR.f11.k rfl, hR.f12.k rfl, hR.f13.k rfl, (fun _ => rfl), (fun _ _ => ⟨W.heap.size, rfl, SlR.new _ _ _⟩), (fun h => absurd (upd_back h rfl) (by simp [hk])), hR.f17.k rfl, (fun h => absurd (upd_back h rfl) (by simp [hk18])), hR.w1.o rfl, hR.w3.o rfl, hR.w5.o rfl, hR.w7.o rfl, hR.w8.o rfl, hR.w9.o rfl, hR.w10.o rfl, hR.w12.o rfl, hR.w13.o rfl, hR.w14.o rfl, (fun _ j hj => upd_on (hw j hj)), hR.w16.o rfl, hR.w18.o rfl⟩⟩
                refine EachOf.cons [1, 15] rfl (by kernel_rfl) ?_ ?_
                · rintro L A W ⟨v, rfl, hR⟩ hi hw K hK
                  have hk : L 16 = false := hi
                  have hk18 : L 18 = false := hR.w18.not hi rfl
                  have e1 := hR.f1 (hw 1 (by simp))
                  simp only [e1]
                  clear e1
                  obtain ⟨B15, e15, hB15⟩ := hR.x15 (hw 15 (by simp)) hk
                  simp only [e15]
                  have hb := hR.st hi
                  have ho := own_only LO.out (Only.of_below (S := fun _ => False) hb) (fun _ _ q => q)
                  simp only [List.getElem_toArray, List.getElem_cons_succ, List.getElem_cons_zero]
                  rw [if_pos (show Region.wanted _ _ = true by rfl)]
                  refine wp_append_lies W _ _ 22 (by rfl) w.heap.size 3 i0 (.int .i64 0) 1 8 Try.underlying22 HI.out.1 HI.out.2.1 HI.out.2.2.1 HI.out.2.2.2 rfl (by decide) (.slice pa c pc) c _ (by rfl) ho ⟨B15, 0, none⟩ 1 1 [.int .i64 z] (by rfl) rfl (SlR.news hB15) (by intro u hu; simp at hu; subst hu; rfl) (by omega) (by unfold maxLen; omega) (by omega) (Nat.le_trans LB.out hb.size) _ rfl ?_
                  intro g cap w1 hown hgrow hat hlt
                  refine hK.out _ _ ?_
                  exact ⟨(fun jz => if jz = 82 then .slice pa c pc else if jz = 96 then .slice (some ⟨B15, 0, none⟩) 1 1 else if jz = 97 then .slice (some ⟨g, 0, none⟩) (c + 1) cap else v jz), rfl, ⟨(fun h => by simp [upd_self] at h), hR.f0.k rfl, (fun _ => rfl), hR.f2.k rfl, hR.f3.k rfl, hR.f4.k rfl, hR.f5.k rfl, hR.f6.k rfl, hR.f7.k rfl, hR.f8.k rfl, hR.f9.k rfl, hR.f10.k rfl, hR.f11.k rfl, hR.f12.k rfl, hR.f13.k rfl, hR.f14.k rfl, (fun _ h => by simp [upd_self] at h), (fun _ _ => AppW.make hb hgrow hown hat hlt), hR.f17.k rfl, (fun h => absurd (upd_back h rfl) (by simp [hk18])), hR.w1.o rfl, hR.w3.o rfl, hR.w5.o rfl, hR.w7.o rfl, hR.w8.o rfl, hR.w9.o rfl, hR.w10.o rfl, hR.w12.o rfl, hR.w13.o rfl, hR.w14.o rfl, hR.w15.o rfl, (fun _ j hj => upd_on (hw j hj)), hR.w18.o rfl⟩⟩
                refine EachOf.cons [] rfl (by kernel_rfl) ?_ ?_
                · rintro L A W ⟨v, rfl, hR⟩ hi hw K hK
                  go_simp
                  refine hK.out _ _ ?_
                  exact ⟨(fun jz => if jz = 98 then .pointer (some ⟨tb, 0, none⟩) else v jz), rfl, ⟨(fun h => hR.st (upd_false h)), hR.f0.k rfl, hR.f1.k rfl, hR.f2.k rfl, hR.f3.k rfl, hR.f4.k rfl, hR.f5.k rfl, hR.f6.k rfl, hR.f7.k rfl, hR.f8.k rfl, hR.f9.k rfl, hR.f10.k rfl, hR.f11.k rfl, hR.f12.k rfl, hR.f13.k rfl, hR.f14.k rfl, hR.x15.keepM rfl (fun h hx => h (upd_false hx)), hR.x16.keepM rfl (fun h hx => h (upd_false hx)), (fun _ => rfl), hR.s1.k rfl, hR.w1.o rfl, hR.w3.o rfl, hR.w5.o rfl, hR.w7.o rfl, hR.w8.o rfl, hR.w9.o rfl, hR.w10.o rfl, hR.w12.o rfl, hR.w13.o rfl, hR.w14.o rfl, hR.w15.o rfl, hR.w16.o rfl, hR.w18.o rfl⟩⟩
                refine EachOf.cons [0, 1, 2, 3, 4, 5, 6, 7, 8, 9, 10, 11, 12, 13, 14, 15, 16, 17] rfl (by kernel_rfl) ?_ ?_
                · rintro L A W ⟨v, rfl, hR⟩ hi hw K hK
                  have e17 := hR.f17 (hw 17 (by simp))
                  simp only [e17]
                  clear e17
                  have hA := hR.x16 (hw 16 (by simp)) hi
                  obtain ⟨gq, capq, hzz, hcase, hl⟩ := hA.form
                  rw [hzz] at hA
                  simp only [hzz]
                  have qf1 := (hA.only.cell (p := ⟨tb, 0, none⟩) LD.out.2 LN.out).trans LD.out.1
                  have qf2 := (hA.only.frozen (p := ⟨tb, 0, none⟩) LD.out.2 LN.out).trans LF.out
                  go_simp
                  refine hK.out _ _ ?_
                  exact ⟨(fun jz => if jz = 98 then .pointer (some ⟨tb, 0, none⟩) else if jz = 97 then .slice (some ⟨gq, 0, none⟩) (c + 1) capq else v jz), rfl, ⟨(fun h => absurd (hw 16 (by simp)) (by simp [upd_false h])), hR.f0.k rfl, hR.f1.k rfl, hR.f2.k rfl, hR.f3.k rfl, hR.f4.k rfl, hR.f5.k rfl, hR.f6.k rfl, hR.f7.k rfl, hR.f8.k rfl, hR.f9.k rfl, hR.f10.k rfl, hR.f11.k rfl, hR.f12.k rfl, hR.f13.k rfl, hR.f14.k rfl, (fun _ h => absurd (hw 16 (by simp)) (by simp [upd_false h])), (fun _ h => by simp [upd_self] at h), (fun _ => rfl), (fun _ => ⟨W, gq, capq, hA, rfl⟩), hR.w1.o rfl, hR.w3.o rfl, hR.w5.o rfl, hR.w7.o rfl, hR.w8.o rfl, hR.w9.o rfl, hR.w10.o rfl, hR.w12.o rfl, hR.w13.o rfl, hR.w14.o rfl, hR.w15.o rfl, hR.w16.o rfl, (fun _ j hj => upd_on (hw j hj))⟩⟩
                exact EachOf.nil
              rintro L A W ⟨v, rfl, hR⟩ hL
              obtain ⟨W5, gq, cap, hA, rfl⟩ := hR.s1 (hL 18 (by simp))
              have hqq : (Value.slice pa c pc).ownBlock = some gq ∨ W2.heap.size ≤ gq := by
                obtain ⟨g2, cap2, h1, h2, h3⟩ := hA.form
                have e4 : gq = g2 := by injection h1 with e1 e2 e3; injection e1 with e1; injection e1
                rw [e4]; exact h2
              have hgt : Wm.heap.size ≤ gq ∧ gq ≠ tb := by
                rcases hqq with h | h
                · exact S4.out.2.2 gq h
                · have := S4.out.1.size
                  have := S4.out.2.1.hb
                  exact ⟨by omega, by omega⟩
              have T : Hid (Below Wm.heap.size Wm (W5.setCell ⟨tb, 0, none⟩ (.slice (some ⟨gq, 0, none⟩) (c + 1) cap)) ∧ EBlk (W5.setCell ⟨tb, 0, none⟩ (.slice (some ⟨gq, 0, none⟩) (c + 1) cap)) tb (.slice (some ⟨gq, 0, none⟩) (c + 1) cap) (.int .i64 1) (.int .i64 cst) ∧ (W5.setCell ⟨tb, 0, none⟩ (.slice (some ⟨gq, 0, none⟩) (c + 1) cap)).ownsRow w.heap.size 3 1 (.slice (some ⟨gq, 0, none⟩) (c + 1) cap) (c + 1) ((List.range (c + 1)).map fun l => Value.int .i64 (duZ p j l)) ∧ ∀ q, (Value.slice (some ⟨gq, 0, none⟩) (c + 1) cap).ownBlock = some q → Wm.heap.size ≤ q ∧ q ≠ tb) := by
                refine ⟨(S4.out.1.trans (hA.only.below S4.out.1.size (fun q hq => (S4.out.2.2 q hq).1))).setCell (p := ⟨tb, 0, none⟩) HTB.out _, (S4.out.2.1.only hA.only LN.out).set0 _, ?_, fun q hq => ?_⟩
                · rw [intsC_succ, ← HZ.out]
                  exact own_only hA.own (only_set W5 ⟨tb, 0, none⟩ _) (fun q hq e => by
                    have e4 : gq = q := by injection hq
                    have e3 : q = tb := e
                    omega)
                · have e4 : gq = q := by injection hq
                  subst e4
                  exact hgt
              clear hqq hgt hA hR hL LD LX1 LR2 LZ LO LB LN LF S4 HZ LS0 LS1 wm lR lR2 lj HEC
              go_wp2_with fail
              rw [← er]
              go_roundg (shN p - (c + 1))
              case measure => omega
              case rel => exact ⟨c + 1, rfl, rfl, by omega, _, T⟩
            · have e : c = shN p := by omega
              obtain ⟨pa, pc, hcv⟩ := own_form S3.out.2.2.1
              subst hcv
              rw [e] at S3 ⊢
              clear e hc2 hlt
              obtain ⟨pb, qc, hrv⟩ := own_form S.out.1.r
              have k0 := S3.out.2.1.c0
              have k1 := S3.out.2.1.c1
              have k2 := S3.out.2.1.c2
              have hS1 := S.out.1.go S3.out.1
              have k3 := hS1.d.2.2
              have B1 : Hid (Below W1.heap.size W1 (W1.alloc (Obj.cells #[.slice pa (shN p) pc, .int .i64 1, .int .i64 cst] 50))) := (Below.refl _ _).alloc (Nat.le_refl _) _
              have S5 := Lib.hid (hS1.go B1.out)
              have BB := Lib.hid (below_on S.out.2 (below_on S3.out.1 B1.out))
              have HPO : Hid ((W1.alloc (Obj.cells #[.slice pa (shN p) pc, .int .i64 1, .int .i64 cst] 50)).ownsRow w.heap.size 3 1 (.slice pa (shN p) pc) (shN p) ((List.range (shN p)).map fun l => Value.int .i64 (duZ p j l))) := own_only S3.out.2.2.1 (Only.of_below (S := fun _ => False) B1.out) (fun _ _ q => q)
              have HPN : Hid (∀ q, (Value.slice pa (shN p) pc).ownBlock = some q → q ≠ db ∧ q ≠ gb ∧ rv.ownBlock ≠ some q) := fun q hq => by
                have := (S3.out.2.2.2 q hq).1
                have := S.out.1.d.1
                have := S.out.1.g.1
                exact ⟨by omega, by omega, fun e => by have := (S.out.1.r.lt q e).2; omega⟩
              have A1 : Hid (∀ l u, [Value.slice pa (shN p) pc, .int .i64 1, .int .i64 cst][l]? = some u → (W1.alloc (Obj.cells #[.slice pa (shN p) pc, .int .i64 1, .int .i64 cst] 50)).cell? ((⟨W1.heap.size, 0, none⟩ : Addr).add l) = some u) := tri_news (by simp [go_sem]) (by simp [go_sem]) (by simp [go_sem])
              have LN : Hid (¬ rv.ownBlock = some db) := fun e => ((S.out.1.rn db e).2.2.1 rfl)
              clear hS1 S S3
              subst hrv
              have OR := Lib.hid S5.out.r
              go_upto_region 26 with (at_builtin; refine wpList_append_lies _ rfl _ _ 23 rfl w.heap.size 50 i2 (.agg #[.slice none 0 0, .int .i64 0, .int .i64 0]) 3 40 Try.underlying23 HI2.out.1 HI2.out.2.1 HI2.out.2.2.1 HI2.out.2.2.2 rfl (by decide) _ _ _ rfl OR.out ⟨W1.heap.size, 0, none⟩ 1 1 [.slice pa (shN p) pc, .int .i64 1, .int .i64 cst] rfl rfl A1.out (by intro u hu; simp at hu; rcases hu with hu | hu | hu <;> subst hu <;> rfl) (by omega) (by unfold maxLen; omega) (by omega) BB.out.size _ rfl ?_; intro gq cap W4 hown hgrow hat hqlt; have kk1 := ((grown_only (Below.refl _ _) hgrow).cell (p := ⟨db, 1, none⟩) S5.out.d.1 LN.out).trans S5.out.d.2.2; have kk2 := ((grown_only (Below.refl _ _) hgrow).frozen (p := ⟨db, 1, none⟩) S5.out.d.1 LN.out).trans S5.out.dz.2)
              have hA := grown_only (Below.refl _ _) hgrow
              have hqq : (Value.slice pb j qc).ownBlock = some gq ∨ (W1.alloc (Obj.cells #[.slice pa (shN p) pc, .int .i64 1, .int .i64 cst] 50)).heap.size ≤ gq := hat.imp id (fun e => by rw [e]; exact Nat.le_refl _)
              rw [← HCST.out] at hown
              have T : Hid (DuI p w.heap.size (W4.setCell ⟨db, 1, none⟩ (.slice (some ⟨gq, 0, none⟩) (j + 1) cap)) xb gb db (.slice sa (shN p) sc) (shN p) (j + 1) cv (.slice (some ⟨gq, 0, none⟩) (j + 1) cap) (updG P j pa) (updG C j pc) ∧ Below w.heap.size w (W4.setCell ⟨db, 1, none⟩ (.slice (some ⟨gq, 0, none⟩) (j + 1) cap))) :=
                ⟨S5.out.pushR HPO.out HPN.out hA hown hqq, (BB.out.trans (hA.below BB.out.size (fun q hq => (OR.out.lt q hq).1))).setCell (p := ⟨db, 1, none⟩) S5.out.lo.2.2 _⟩
              clear hown hgrow hat hqlt kk1 kk2 hA hqq k0 k1 k2 k3 B1 S5 BB HPO HPN A1 LN OR
              go_wp2_with fail
              go_roundg (p.n - (j + 1))
              case measure => omega
              case rel => exact ⟨j + 1, rfl, rfl, by omega, _, _, _, T⟩
        · have e : j = p.n := by omega
          subst e
          obtain ⟨ca, cc, e1⟩ := own_form S.out.1.c
          obtain ⟨ra, rc, e2⟩ := own_form S.out.1.r
          subst e1 e2
          have k0 := S.out.1.d.2.1
          have k1 := S.out.1.d.2.2
          obtain ⟨_, c0, c1⟩ := S.out.1.g
          obtain ⟨f0, f1⟩ := S.out.1.gz
          have H5 := Lib.hid (Blk.set (x := .slice ca (shN p) cc) (y := .slice ra p.n rc) S.out.1.g)
          have B5 := Lib.hid (below_sets (w := w) (x := .slice ca (shN p) cc) (y := .slice ra p.n rc) S.out.2 S.out.1.lo.2.1)
          have F5 := Lib.hid (S.out.1.fin2 (only_sets Wm gb (.slice ca (shN p) cc) (.slice ra p.n rc)) (fun l hl q hq => (S.out.1.on l hl q hq).2))
          go_wp2_with fail
          clear k0 k1 c0 c1 f0 f1
          generalize (Wm.setCell ⟨gb, 0, none⟩ (.slice ca (shN p) cc)).setCell ⟨gb, 1, none⟩ (.slice ra p.n rc) = W5 at *
          have x0 := H5.out.2.1
          have x1 := H5.out.2.2
          (try simp only [Exit.inBlock, Exit.then])
          refine bodyPost_ret (by simp [results, Try.results9, x0, x1, go_sem]; rfl) rfl ?_
          exact ⟨B5.out, duP p ca cc ra rc P C, 0, rfl, F5.out, .inr (.inr (.inr (.inr ⟨rfl, HOK.out, hmp, ⟨hn6, hml⟩, HRT.out, duP_is p ca cc ra rc P C⟩)))⟩
end Go.Proofs.Ytdbmlkkpffoadaa
