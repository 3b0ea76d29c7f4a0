/- Layer 7: Parts. -/
import Derived.Test.YtjonhhmapbibaaaDoorUPk
import Derived.Test.YtjonhhmapbibaaaDoorUEar
namespace Go.Proofs.YtjonhhmapbibaaaDoor
open Go.ChangeShapes Go.WideShapes Go.ChangeAt Go.RowKit Go.Joins Go.Deep Go.Shelf
set_option linter.unusedVariables false

/-- The parts that Parts takes, one after the other. -/
def PtR (F m : Nat → Int) : Nat → List Nat → Prop
  | left, [] => left = 0
  | left, p :: ps => left ≠ 0 ∧ Sub p left ∧ FpC F m left p ∧ (∀ q, Sub q left → FpC F m left q → q ≤ p) ∧ PtR F m (anb left p) ps
/-- A list of lists of indices, of the call's own. -/
structure PL (W : World) (base : Nat) (v : Value) (ls : List (List Nat)) (rows : List Value) : Prop where
  top : W.ownsRow base 22 1 v ls.length rows
  row : ∀ i, i < ls.length → ∃ qa qc, rows[i]? = some (.slice qa (ls.getD i []).length qc) ∧ W.ownsRow base 3 1 (.slice qa (ls.getD i []).length qc) (ls.getD i []).length ((ls.getD i []).map fun i => Value.int .i64 (i : Nat))
theorem own_on {W W2 : World} {b : Nat} {t : TypeId} {k n : Nat} {v : Value} {xs : List Value} (h : W.ownsRow b t k v n xs) (hb : Below W.heap.size W W2) : W2.ownsRow b t k v n xs := own_only h (Only.of_below (S := fun _ => False) hb) (fun _ _ q => q)
theorem PL.on {W W2 : World} {base : Nat} {v : Value} {ls : List (List Nat)} {rows : List Value} (h : PL W base v ls rows) (hb : Below W.heap.size W W2) : PL W2 base v ls rows :=
  ⟨own_on h.top hb, fun i hi => by
    obtain ⟨qa, qc, h1, h2⟩ := h.row i hi
    exact ⟨qa, qc, h1, own_on h2 hb⟩⟩
theorem PL.mono {W : World} {base b2 : Nat} {v : Value} {ls : List (List Nat)} {rows : List Value} (h : PL W base v ls rows) (hl : b2 ≤ base) : PL W b2 v ls rows :=
  ⟨own_mono h.top hl, fun i hi => by
    obtain ⟨qa, qc, h1, h2⟩ := h.row i hi
    exact ⟨qa, qc, h1, own_mono h2 hl⟩⟩
theorem own_apart {W : World} {b1 b2 : Nat} {t1 t2 : TypeId} {k1 k2 n1 n2 : Nat} {v1 v2 : Value} {x1 x2 : List Value} (h : W.ownsRow b1 t1 k1 v1 n1 x1) (g : W.ownsRow b2 t2 k2 v2 n2 x2) (ht : t1 ≠ t2) : ∀ q, v2.ownBlock = some q → ¬ v1.ownBlock = some q := fun q e1 e2 => by
  rcases h.2 with ⟨rfl, _⟩ | ⟨g1, c1, u1, rfl, _, a1, _⟩
  · simp [Value.ownBlock] at e2
  · rcases g.2 with ⟨rfl, _⟩ | ⟨g2, c2, u2, rfl, _, a2, _⟩
    · simp [Value.ownBlock] at e1
    · simp [Value.ownBlock] at e1 e2
      subst e1; subst e2
      rw [a1] at a2
      injection a2 with a2
      injection a2 with _ a3
      exact ht a3
/-- A list more. -/
theorem PL.push {W W2 : World} {base : Nat} {v : Value} {ls : List (List Nat)} {rows : List Value} {l : List Nat} {qa : Option Addr} {qc : Nat} (h : PL W base v ls rows) (ho : W.ownsRow base 3 1 (.slice qa l.length qc) l.length (l.map fun i => Value.int .i64 (i : Nat)))
    (hA : Only (fun q => v.ownBlock = some q) W W2) {v2 : Value} (ht : W2.ownsRow base 22 1 v2 (ls.length + 1) (rows ++ [.slice qa l.length qc])) : PL W2 base v2 (ls ++ [l]) (rows ++ [.slice qa l.length qc]) := by
  have hlen : rows.length = ls.length := by have := h.top.1; omega
  refine ⟨by rw [List.length_append]; exact ht, fun i hi => ?_⟩
  rw [List.length_append] at hi
  simp at hi
  by_cases q : i < ls.length
  · obtain ⟨a, c, h1, h2⟩ := h.row i q
    have e : (ls ++ [l]).getD i [] = ls.getD i [] := by rw [List.getD_eq_getElem?_getD, List.getD_eq_getElem?_getD, List.getElem?_append_left q]
    rw [e]
    exact ⟨a, c, by rw [List.getElem?_append_left (by omega)]; exact h1, own_only h2 hA (own_apart h.top h2 (by decide))⟩
  · have e : i = ls.length := by omega
    subst e
    have e : (ls ++ [l]).getD ls.length [] = l := by rw [List.getD_eq_getElem?_getD, List.getElem?_append_right (Nat.le_refl _)]; simp
    rw [e]
    exact ⟨qa, qc, by rw [List.getElem?_append_right (by omega), hlen]; simp, own_only ho hA (own_apart h.top ho (by decide))⟩

theorem anb_lt {left p : Nat} (hl : left < 65536) (h : Sub p left) (h0 : p ≠ 0) : anb left p < left := by
  have hp := h.le
  rcases Nat.lt_or_ge (anb left p) left with q | q
  · exact q
  · exfalso
    have e : anb left p = left := Nat.le_antisymm (anb_le _ _) q
    obtain ⟨j, hj⟩ := has_bit h0
    have := ab_bit hl (by omega : p < 65536) j
    rw [e, h.bit hj, hj] at this
    simp at this

def idxs (n : Nat) (ps : List Nat) : List (List Nat) := ps.map fun p => ixs (bitI n p) n
set_option maxRecDepth 100000 in
set_option maxHeartbeats 16000000 in
theorem Parts_ok (ra : Option Addr) (n c : Nat) (f : Nat → Int) (w : World) (hr : IRow w ra n f) (hd : DB w) (hn : n ≤ 11) (ho : okF n f = true) :
    Calls Tryd.prog 9 #[.slice ra n c] w fun e w' => Below w.heap.size w w' ∧ ((smS (bitI n (2 ^ n - 1)) f n ≠ 0 ∧ e = .returned (.tuple #[.slice none 0 0, .int .i64 18])) ∨
      (smS (bitI n (2 ^ n - 1)) f n = 0 ∧ ∃ ps v rows, e = .returned (.tuple #[v, .int .i64 0]) ∧ PtR (fun s => smS (bitI n s) f n) (fun s => (mst n (fun s => smS (bitI n s) f n) s : Int)) (2 ^ n - 1) ps ∧ PL w' w.heap.size v (idxs n ps) rows)) := by
  have hg : givE n f = 0 := by unfold givE; rw [if_neg (by omega), if_pos ho]
  have hf := of_decide_eq_true ho
  have CV := Lib.hid (valid_any ra n c f w hr (by omega))
  rw [hg] at CV
  have CS := fun W (h : Below w.heap.size w W) => Lib.hid (sumsOf_any ra n c f W (hr.on h) (hd.on h) hn hf)
  have hN : 2 ^ n ≤ 2048 := Nat.le_trans (Nat.pow_le_pow_right (by decide) hn) (by decide)
  have h0 := Nat.two_pow_pos n
  have CW := fun W => Lib.hid (whole_any n (by omega) W)
  have CI := fun s (h : s < 2 ^ n) W => Lib.hid (indices_any n s (by omega) h W)
  have HAF := Lib.hid (smS_addF n f (by omega))
  have HEX := Lib.hid (fun left (h1 : left < 2 ^ n) h2 h3 => fp_ex (left := left) (by omega : n ≤ 16) HAF.out h1 h2 h3)
  have HML := Lib.hid (fun j (h : j < 2 ^ n) => mst_le (n := n) (sm := fun s => smS (bitI n s) f n) (by omega) j (by omega))
  have CM := fun W lo g cp (h : NRow lo (2 ^ n) W g cp (fun s => smS (bitI n s) f n)) => Lib.hid (mostParts_any n lo g cp _ W h hn)
  have CF := fun W lo lo2 g cp b cb left (h1 : NRow lo (2 ^ n) W g cp (fun s => smS (bitI n s) f n)) (h2 : NRow lo2 (2 ^ n) W b cb (fun s => (mst n (fun s => smS (bitI n s) f n) s : Int))) (h3 : left < 2 ^ n) h4 (h5 : (fun s => smS (bitI n s) f n) left = 0) => Lib.hid (firstPart_any lo lo2 (2 ^ n) g cp b cb left _ _ W h1 h2 (by omega) h3 (fun j hj => by have := HML.out j hj; omega) (HEX.out left h3 h4 h5))
  clear hr hd HEX HML
  obtain ⟨F, hF⟩ : ∃ F : Nat → Int, F = fun s => smS (bitI n s) f n := ⟨_, rfl⟩
  rw [← hF] at CS CM CF ⊢
  have HAD : Hid (∀ s q, s < 2 ^ n → Sub q s → F s = F q + F (anb s q)) := by rw [hF]; exact HAF.out.add
  clear HAF
  obtain ⟨m, hm⟩ : ∃ m : Nat → Int, m = fun s => (mst n F s : Int) := ⟨_, rfl⟩
  rw [← hm] at CM CF ⊢
  rw [show smS (bitI n (2 ^ n - 1)) f n = F (2 ^ n - 1) by rw [hF]]
  clear hm hF
  generalize 2 ^ n = M at *
  obtain ⟨i0, hi0, hz0, hz1, hz2⟩ := info_parts (show (Tryd.prog.info? 22).map (fun i => (i.zero, i.size, i.bytes)) = some (some (Value.slice none 0 0), 1, 24) by kernel_rfl)
  have HI := Lib.hid (And.intro hi0 (And.intro hz0 (And.intro hz1 hz2)))
  clear hi0 hz0 hz1 hz2
  obtain ⟨T, hT⟩ : ∃ T, T = M - 1 := ⟨_, rfl⟩
  rw [← hT] at CW ⊢
  have hTM : T < M := by omega
  clear hT
  obtain ⟨x, hx⟩ : ∃ x, F T = x := ⟨_, rfl⟩
  rw [hx]
  have HX := Lib.hid hx
  clear hx
  go_enter Tryd.func9, Tryd.ntmps9
  go_upto_region 6 with (first
    | (go_at_call 20; (with_reducible refine ((CV.out).mono ?_)); rintro e w2 ⟨rfl, hb2⟩)
    | (go_at_call 21; (with_reducible refine (((CS _ hb2).out).mono ?_)); rintro e w3 ⟨hb3, g, rfl, hrow⟩)
    | (go_at_call 22; (with_reducible refine (((CW _).out).mono ?_)); rintro e w4 ⟨rfl, rfl⟩))
  have HB := Lib.hid (below_on hb2 hb3)
  have p1 : w3.cell? ⟨g, T, none⟩ = some (.int .i64 x) := by rw [hrow.cell T hTM, HX.out]
  have HR := Lib.hid hrow
  clear hb2 hb3 hrow
  by_cases hx0 : x = 0
  · have q1 : (x != 0) = false := by simp [hx0]
    have HX0 : Hid (F T = 0) := by show _ = _; rw [HX.out, hx0]
    have hz : x = 0 := hx0
    have HZ := Lib.hid hz
    clear hz hx0
    go_upto_region 9 with (first
      | (go_at_call 23; (with_reducible refine (((CM _ _ _ _ HR.out).out).mono ?_)); rintro e w4 ⟨hb4, b, rfl, hrow4⟩))
    have HR2 := Lib.hid (HR.out.on hb4)
    have HM2 := Lib.hid hrow4
    have HB2 := Lib.hid (below_on HB.out hb4)
    clear p1 q1 hb4 hrow4 HR
    have S0 : Hid (Below w4.heap.size w4 w4 ∧ PL w4 w4.heap.size (.slice none 0 0) (idxs n []) [] ∧ F T = 0 ∧ (∀ ps, PtR F m T ps → PtR F m T ([] ++ ps))) := ⟨Below.refl _ _, ⟨⟨rfl, .inl ⟨rfl, rfl⟩⟩, fun i hi => by cases hi⟩, HX0.out, fun ps h => h⟩
    go_wp2_with fail
    go_loopg [6, 8] (2 * T) (fun g' s6 s8 wx => ∃ (left : Nat) (dn : List Nat) (rows : List Value), s6 = .int .u64 left ∧ g' = 2 * left ∧ dn.length + left ≤ T ∧ Hid (Below w4.heap.size w4 wx ∧ PL wx w4.heap.size s8 (idxs n dn) rows ∧ F left = 0 ∧ (∀ ps, PtR F m left ps → PtR F m T (dn ++ ps))))
    case atStart => exact ⟨T, [], [], rfl, rfl, by simp, S0⟩
    case round =>
      clear S0
      obtain ⟨left, dn, rows, rfl, rfl, hdl, S⟩ := hrel
      rename World => W1
      obtain ⟨pa, pc, hpv⟩ := own_form S.out.2.1.top
      subst hpv
      by_cases hl0 : left = 0
      · subst hl0
        have q2 : (((0 : Nat) : Int) != 0) = false := by decide
        have HP := Lib.hid (S.out.2.2.2 [] rfl)
        rw [List.append_nil] at HP
        have T1 := Lib.hid (below_on HB2.out S.out.1)
        have T2 := Lib.hid (S.out.2.1.mono HB2.out.size)
        clear S
        go_wp2_with fail
        go_ret2
        exact ⟨T1.out, .inr ⟨HZ.out, dn, _, rows, rfl, HP.out, T2.out⟩⟩
      · have q2 : ((left : Int) != 0) = true := by simp; omega
        have F1 := CF W1 _ _ _ _ _ _ left (HR2.out.on S.out.1) (HM2.out.on S.out.1) (by omega) hl0 S.out.2.2.1
        go_upto_region 12 with (first
          | (go_at_call 24; (with_reducible refine ((F1.out).mono ?_)); rintro e w5 ⟨hb5, p, rfl, hsub, hfp, hmx⟩))
        have hp0 : p ≠ 0 := fun e => by
          subst e
          have := hfp.2
          rw [show anb left 0 = left from Nat.eq_of_testBit_eq fun i => by rw [ab_bit (by omega) (by omega), Nat.zero_testBit]; simp] at this
          omega
        have hlt := anb_lt (by omega) hsub hp0
        have hpl := Sub.le hsub
        have hFn : F (anb left p) = 0 := by
          have := HAD.out left p (by omega) hsub
          have := hfp.1
          have := S.out.2.2.1
          omega
        have HN : Hid (∀ ps, PtR F m (anb left p) ps → PtR F m T ((dn ++ [p]) ++ ps)) := fun ps hps => by
          have := S.out.2.2.2 (p :: ps) ⟨hl0, hsub, hfp, hmx, hps⟩
          simpa using this
        have HFN := Lib.hid hFn
        have PLW := S.out.2.1.on hb5
        have HB5 := Lib.hid (below_on S.out.1 hb5)
        have C2 := fun W => CI p (by omega) W
        obtain ⟨l2, hl2⟩ : ∃ l2, l2 = anb left p := ⟨_, rfl⟩
        rw [← hl2] at hlt HN HFN
        have kc : bits .andNot .u64 (left : Int) (p : Int) = (l2 : Int) := by rw [u64_andNot_nat _ _ (by omega) (by omega), hl2]; rfl
        have hlen : (idxs n dn).length = dn.length := by unfold idxs; simp
        have HPL := Lib.hid PLW
        clear S F1 hsub hfp hmx hFn PLW hb5 hl2
        have hid : idxs n (dn ++ [p]) = idxs n dn ++ [ixs (bitI n p) n] := by unfold idxs; simp
        have HID := Lib.hid hid
        clear hid
        generalize ixs (bitI n p) n = lp at *
        go_upto_region 13 with (first
          | (go_at_call 25; (with_reducible refine (((C2 _).out).mono ?_)); rintro e w6 ⟨hb6, qa, qc, rfl, hown⟩; (have B5 : Hid (Below w6.heap.size w6 (w6.alloc (Obj.cells #[.slice qa lp.length qc] 22))) := (Below.refl _ _).alloc (Nat.le_refl _) _); (have O5 : Hid ((w6.alloc (Obj.cells #[.slice qa lp.length qc] 22)).ownsRow w4.heap.size 22 1 (.slice pa dn.length pc) dn.length rows) := by (have h := (own_on (HPL.out.on hb6).top B5.out); rw [hlen] at h; exact h)); (have A5 : Hid (∀ m u, [Value.slice qa lp.length qc][m]? = some u → (w6.alloc (Obj.cells #[.slice qa lp.length qc] 22)).cell? ((⟨w6.heap.size, 0, none⟩ : Addr).add m) = some u) := one_news (by simp [go_sem])); (have L5 : Hid (w4.heap.size ≤ (w6.alloc (Obj.cells #[.slice qa lp.length qc] 22)).heap.size) := by (show _ ≤ _; have h2 := HB5.out.size; have h3 := hb6.size; have h4 := B5.out.size; omega)))
          | (at_builtin; (refine wpList_append_lies _ rfl _ _ 23 rfl w4.heap.size 22 i0 (.slice none 0 0) 1 24 Tryd.underlying23 HI.out.1 HI.out.2.1 HI.out.2.2.1 HI.out.2.2.2 rfl (by decide) _ _ _ rfl O5.out ⟨w6.heap.size, 0, none⟩ 1 1 [.slice qa lp.length qc] rfl rfl A5.out (by intro u hu; simp at hu; subst hu; rfl) (by omega) (by unfold maxLen; omega) (by omega) L5.out _ rfl ?_; intro q5 cap5 W5 hgo hgrow hat hqlt)))
        have hA := grown_only (Below.refl _ _) hgrow
        have hown2 := own_on hown B5.out
        have HPB := (HPL.out.on hb6).on B5.out
        rw [hlen] at HPB
        have HSZ : w4.heap.size ≤ w5.heap.size := HB5.out.size
        have T1 : Hid (Below w4.heap.size w4 W5 ∧ PL W5 w4.heap.size (.slice (some ⟨q5, 0, none⟩) (dn.length + 1) cap5) (idxs n (dn ++ [p])) (rows ++ [.slice qa lp.length qc]) ∧ F l2 = 0 ∧ (∀ ps, PtR F m l2 ps → PtR F m T ((dn ++ [p]) ++ ps))) := by
          refine ⟨?_, ?_, HFN.out, HN.out⟩
          · exact (below_on (below_on HB5.out hb6) B5.out).trans (hA.below (below_on (below_on HB5.out hb6) B5.out).size (fun c hc => (O5.out.lt c hc).1))
          · rw [HID.out]
            exact HPB.push (own_mono hown2 HSZ) hA (by rw [hlen]; exact hgo)
        clear hgo hgrow hat hqlt hA hown hown2 HPB B5 O5 A5 L5 HPL HN HFN
        go_wp2_with fail
        go_roundg (2 * l2)
        case measure => omega
        case rel => exact ⟨l2, dn ++ [p], _, rfl, rfl, by simp; omega, T1⟩
  · have q1 : (x != 0) = true := by simpa using hx0
    go_wp2_with fail
    go_ret2
    exact ⟨HB.out, .inl ⟨hx0, rfl⟩⟩
end Go.Proofs.YtjonhhmapbibaaaDoor
