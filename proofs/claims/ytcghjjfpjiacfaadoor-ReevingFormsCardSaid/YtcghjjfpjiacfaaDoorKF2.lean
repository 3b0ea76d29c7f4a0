/- Layer 10: package reeving: Same. -/
import Derived.Test.YtcghjjfpjiacfaaDoorKF1
namespace Go.Proofs.YtcghjjfpjiacfaaDoor
open Go.ChangeShapes Go.WideShapes Go.ChangeAt Go.RowKit Go.Joins Go.Deep Go.Shelf
set_option linter.unusedVariables false

/-- The same rope; the same system. -/
def SameR (r q : Rop) : Prop := r.name = q.name ∧ r.hauled = q.hauled ∧ r.n = q.n ∧ ∀ i, i < r.n → (r.hs i).blk = (q.hs i).blk ∧ (r.hs i).pulls = (q.hs i).pulls ∧ (r.hs i).num = (q.hs i).num ∧ (r.hs i).den = (q.hs i).den
def SameS (s t : Sys) : Prop := (s.nb = t.nb ∧ ∀ i, i < s.nb → s.bn i = t.bn i ∧ s.bw i = t.bw i) ∧ s.nr = t.nr ∧ ∀ k, k < s.nr → SameR (s.R k) (t.R k)
theorem no_of {v : Bool} {P : Prop} (h : v = true ↔ P) (n : ¬ P) : v = false := by
  cases e : v
  · rfl
  · exact absurd (h.1 e) n
set_option maxHeartbeats 8000000 in
theorem same1_any (nm nk : ByteArray) (ha hb : Option Addr) (n m hc kc : Nat) (f k : Nat → Hld) (hd he : Bool) (w : World) (h1 : HolR w ha n f) (h2 : HolR w hb m k) (hn : n ≤ 1000) (hm : m ≤ 1000) (v : Bool) (hv : v = true ↔ nm = nk ∧ hd = he ∧ n = m ∧ ∀ i, i < n → (f i).blk = (k i).blk ∧ (f i).pulls = (k i).pulls ∧ (f i).num = (k i).num ∧ (f i).den = (k i).den) :
    Calls Tryd.prog 73 #[.agg #[.string nm, .slice ha n hc, .bool hd], .agg #[.string nk, .slice hb m kc, .bool he]] w fun e w' => e = .returned (.bool v) ∧ Below w.heap.size w w' := by
  obtain ⟨w1, hw1⟩ : ∃ W, W = (w.alloc (Obj.cells #[Value.string nm, .slice ha n hc, .bool hd] 58)).alloc (Obj.cells #[Value.string nk, .slice hb m kc, .bool he] 58) := ⟨_, rfl⟩
  obtain ⟨x2, hx2⟩ : ∃ x, x = w.heap.size := ⟨_, rfl⟩
  obtain ⟨x3, hx3⟩ : ∃ x, x = w.heap.size + 1 := ⟨_, rfl⟩
  have hB0 : Below (w.alloc (Obj.cells #[Value.string nm, .slice ha n hc, .bool hd] 58)).heap.size (w.alloc (Obj.cells #[Value.string nm, .slice ha n hc, .bool hd] 58)) w1 := by rw [hw1]; exact (Below.refl _ _).alloc (Nat.le_refl _) _
  have hC2 : C3 w1 x2 (Value.string nm) (.slice ha n hc) (.bool hd) := by rw [hx2]; exact (C3.new w _ _ _ _).on hB0
  have hC3 : C3 w1 x3 (Value.string nk) (.slice hb m kc) (.bool he) := by
    rw [hw1, hx3, show w.heap.size + 1 = (w.alloc (Obj.cells #[Value.string nm, .slice ha n hc, .bool hd] 58)).heap.size by simp]
    exact C3.new _ _ _ _ _
  have hB : Below w.heap.size w w1 := below_on ((Below.refl _ _).alloc (Nat.le_refl _) _) hB0
  have HB := Lib.hid hB
  have HA := Lib.hid hC2
  have HC := Lib.hid hC3
  have HD : Hid (x2 = w.heap.size ∧ x3 = w.heap.size + 1 ∧ w1 = (w.alloc (Obj.cells #[Value.string nm, .slice ha n hc, .bool hd] 58)).alloc (Obj.cells #[Value.string nk, .slice hb m kc, .bool he] 58)) := ⟨hx2, hx3, hw1⟩
  have HV := Lib.hid hv
  obtain ⟨t, ht⟩ := kbool_of (n = m ∧ ∀ i, i < n → (f i).blk = (k i).blk ∧ (f i).pulls = (k i).pulls ∧ (f i).num = (k i).num ∧ (f i).den = (k i).den)
  have CE := Lib.hid (eqH_any ha hb n m hc kc f k w1 (h1.on hB) (h2.on hB) hn hm t ht)
  have HT := Lib.hid ht
  have c0 := hC2.c0
  have c1 := hC2.c1
  have c2 := hC2.c2
  have d0 := hC3.c0
  have d1 := hC3.c1
  have d2 := hC3.c2
  clear hv ht h1 h2 hn hm
  clear hx2 hx3 hw1 hB0 hC2 hC3 hB
  by_cases e1 : nm = nk
  · subst e1
    by_cases e2 : hd = he
    · subst e2
      obtain rfl : v = t := by
        cases t
        · exact no_of HV.out (fun h => by have := HT.out.2 h.2.2; cases this)
        · exact HV.out.2 ⟨rfl, rfl, HT.out.1 rfl⟩
      clear HV HT
      go_enter Tryd.func73, Tryd.ntmps73
      go_upto_region 1 with fail
      rw [← HD.out.2.2, ← HD.out.2.1, ← HD.out.1]
      clear HD
      go_wp2_with (go_at_call 74; (with_reducible refine (CE.out.mono ?_)); rintro e w2 ⟨rfl, hb2⟩; have H2 := Lib.hid (below_on HB.out hb2); clear hb2)
      go_ret
      exact ⟨rfl, H2.out⟩
    · have en : (hd == he) = false := by simpa using e2
      obtain rfl : v = false := no_of HV.out (fun h => e2 h.2.1)
      clear HV HT CE e2
      go_enter Tryd.func73, Tryd.ntmps73
      go_upto_region 1 with fail
      rw [← HD.out.2.2, ← HD.out.2.1, ← HD.out.1]
      clear HD
      go_wp2_with fail
      go_ret
      exact ⟨rfl, HB.out⟩
  · have en := str_neq e1
    obtain rfl : v = false := no_of HV.out (fun h => e1 h.1)
    clear HV HT CE e1
    go_enter Tryd.func73, Tryd.ntmps73
    go_upto_region 1 with fail
    rw [← HD.out.2.2, ← HD.out.2.1, ← HD.out.1]
    clear HD
    go_wp2_with fail
    go_ret
    exact ⟨rfl, HB.out⟩
set_option maxHeartbeats 8000000 in
theorem eqR_any (ra qa : Option Addr) (n m rc qc : Nat) (R Q : Nat → Rop) (w : World) (h1 : RopR w ra n R) (h2 : RopR w qa m Q) (hn : n ≤ 1000) (hm : m ≤ 1000) (hR : ∀ k, k < n → (R k).n ≤ 1000) (hQ : ∀ k, k < m → (Q k).n ≤ 1000) (v : Bool) (hv : v = true ↔ n = m ∧ ∀ k, k < n → SameR (R k) (Q k)) :
    Calls Tryd.prog 72 #[.slice ra n rc, .slice qa m qc, .func (.func 73) #[] #[]] w fun e w' => e = .returned (.bool v) ∧ Below w.heap.size w w' := by
  have H1 := Lib.hid h1
  have H2 := Lib.hid h2
  have HN := Lib.hid (And.intro hR hQ)
  by_cases hnm : n = m
  · subst hnm
    have HV : Hid (v = true ↔ ∀ k, k < n → SameR (R k) (Q k)) := ⟨fun h => (hv.1 h).2, fun h => hv.2 ⟨rfl, h⟩⟩
    have S0 : Hid (Below w.heap.size w w ∧ ∀ j, j < 0 → SameR (R j) (Q j)) := ⟨Below.refl _ _, fun j hj => by omega⟩
    clear h1 h2 hv hm hR hQ
    go_enter Tryd.func72, Tryd.ntmps72
    go_wp2_with fail
    go_loopg [17] n (fun mm s17 wx => ∃ k : Nat, s17 = .int .i64 (k : Int) ∧ mm = n - k ∧ k ≤ n ∧ Hid (Below w.heap.size w wx ∧ ∀ j, j < k → SameR (R j) (Q j)))
    case atStart => exact ⟨0, rfl, rfl, Nat.zero_le _, S0⟩
    case round =>
      clear S0
      obtain ⟨k, rfl, rfl, hk, S⟩ := hrel
      rename World => W1
      by_cases hlt : k < n
      · have lk : (k : Int) < (n : Int) := by omega
        have wk : IntKind.i64.wrap ((k : Int) + 1) = ((k + 1 : Nat) : Int) := by rw [IntWalk.i64_in _ (by omega)]; omega
        obtain ⟨b, o, rfl, hbk, hck⟩ := H1.out.l (by omega)
        obtain ⟨c, d, rfl, hcb, hcc⟩ := H2.out.l (by omega)
        have HT := Lib.hid (And.intro hbk hck)
        have HU := Lib.hid (And.intro hcb hcc)
        clear hbk hck hcb hcc
        have p1 := (S.out.1.cell (p := ⟨b, o + k * 3, none⟩) HT.out.1).trans (HT.out.2 k hlt).1
        have p2 := (S.out.1.cell (p := ⟨b, o + k * 3 + 1, none⟩) HT.out.1).trans (HT.out.2 k hlt).2.1
        have p3 := (S.out.1.cell (p := ⟨b, o + k * 3 + 2, none⟩) HT.out.1).trans (HT.out.2 k hlt).2.2
        obtain ⟨t, ht⟩ := kbool_of (SameR (R k) (Q k))
        have hd1 : SameR (R k) (Q k) → ∀ j, j < k + 1 → SameR (R j) (Q j) := fun h j hj => by
          by_cases e : j = k
          · rw [e]; exact h
          · exact S.out.2 j (by omega)
        have hd2 : ¬ SameR (R k) (Q k) → v = false := fun h => by
          cases e : v
          · rfl
          · exact absurd (HV.out.1 e k hlt) h
        have HX : Hid ((t = true → ∀ j, j < k + 1 → SameR (R j) (Q j)) ∧ (t = false → v = false)) := ⟨fun h => hd1 (ht.1 h), fun h => hd2 (fun q => by rw [ht.2 q] at h; cases h)⟩
        have CX : Hid (∀ W, Below W1.heap.size W1 W → Calls Tryd.prog 73 #[.agg #[.string (R k).name, .slice (R k).ha (R k).n (R k).hc, .bool (R k).hauled], .agg #[.string (Q k).name, .slice (Q k).ha (Q k).n (Q k).hc, .bool (Q k).hauled]] W fun e w' => e = .returned (.bool t) ∧ Below W.heap.size W w') := fun W hW =>
          same1_any (R k).name (Q k).name (R k).ha (Q k).ha (R k).n (Q k).n (R k).hc (Q k).hc (R k).hs (Q k).hs (R k).hauled (Q k).hauled W ((H1.out.h k hlt).on (below_on S.out.1 hW)) ((H2.out.h k hlt).on (below_on S.out.1 hW)) (HN.out.1 k hlt) (HN.out.2 k hlt) t ht
        clear hd1 hd2 ht
        go_upto_region 6 with fail
        obtain ⟨W2, hW2⟩ : ∃ W, W = W1.alloc (Obj.cells #[.string (R k).name, .slice (R k).ha (R k).n (R k).hc, .bool (R k).hauled] 58) := ⟨_, rfl⟩
        obtain ⟨b6, hb6⟩ : ∃ x, x = W1.heap.size := ⟨_, rfl⟩
        have hCb6 : C3 W2 b6 (.string (R k).name) (.slice (R k).ha (R k).n (R k).hc) (.bool (R k).hauled) := by rw [hW2, hb6]; exact C3.new _ _ _ _ _
        have HBb6 : Hid (Below W1.heap.size W1 W2) := by rw [hW2]; exact (Below.refl _ _).alloc (Nat.le_refl _) _
        rw [← hW2, ← hb6]
        clear hW2 hb6
        have S2 := Lib.hid (below_on S.out.1 HBb6.out)
        clear p1 p2 p3
        have q1 := (S2.out.cell (p := ⟨c, d + k * 3, none⟩) HU.out.1).trans (HU.out.2 k hlt).1
        have q2 := (S2.out.cell (p := ⟨c, d + k * 3 + 1, none⟩) HU.out.1).trans (HU.out.2 k hlt).2.1
        have q3 := (S2.out.cell (p := ⟨c, d + k * 3 + 2, none⟩) HU.out.1).trans (HU.out.2 k hlt).2.2
        go_upto_region 7 with fail
        obtain ⟨W3, hW3⟩ : ∃ W, W = W2.alloc (Obj.cells #[.string (Q k).name, .slice (Q k).ha (Q k).n (Q k).hc, .bool (Q k).hauled] 58) := ⟨_, rfl⟩
        obtain ⟨b7, hb7⟩ : ∃ x, x = W2.heap.size := ⟨_, rfl⟩
        have hCb7 : C3 W3 b7 (.string (Q k).name) (.slice (Q k).ha (Q k).n (Q k).hc) (.bool (Q k).hauled) := by rw [hW3, hb7]; exact C3.new _ _ _ _ _
        have HBb7 : Hid (Below W2.heap.size W2 W3) := by rw [hW3]; exact (Below.refl _ _).alloc (Nat.le_refl _) _
        rw [← hW3, ← hb7]
        clear hW3 hb7
        have c0 := (HBb7.out.cell (p := ⟨b6, 0, none⟩) hCb6.lt).trans hCb6.c0
        have c1 := (HBb7.out.cell (p := ⟨b6, 1, none⟩) hCb6.lt).trans hCb6.c1
        have c2 := (HBb7.out.cell (p := ⟨b6, 2, none⟩) hCb6.lt).trans hCb6.c2
        have d0 := hCb7.c0
        have d1 := hCb7.c1
        have d2 := hCb7.c2
        have CE := Lib.hid (CX.out W3 (below_on HBb6.out HBb7.out))
        have S3 := Lib.hid (below_on S2.out HBb7.out)
        clear q1 q2 q3 hCb6 hCb7 HBb6 HBb7 CX S2 S
        go_wp2_with fail
        (with_reducible refine (CE.out.mono ?_))
        rintro e w4 ⟨rfl, hb4⟩
        have S4 := Lib.hid (below_on S3.out hb4)
        clear hb4 c0 c1 c2 d0 d1 d2
        cases t
        · obtain rfl : v = false := HX.out.2 rfl
          clear HX
          go_wp2_with fail
          go_ret
          exact ⟨rfl, S4.out⟩
        · have T4 : Hid (Below w.heap.size w w4 ∧ ∀ j, j < k + 1 → SameR (R j) (Q j)) := ⟨S4.out, HX.out.1 rfl⟩
          clear HX
          go_wp2_with fail
          go_roundg (n - (k + 1))
          case measure => omega
          case rel => exact ⟨k + 1, rfl, rfl, by omega, T4⟩
      · have lk : ¬ (k : Int) < (n : Int) := by omega
        have e : n = k := by omega
        subst e
        obtain rfl : v = true := HV.out.2 S.out.2
        have hB := Lib.hid S.out.1
        clear S
        go_wp2_with fail
        go_ret
        exact ⟨rfl, hB.out⟩
  · obtain rfl : v = false := no_of hv (fun h => hnm h.1)
    have hne : ((n : Int) == (m : Int)) = false := by simp; omega
    have hne2 : ¬ (n : Int) = (m : Int) := by omega
    clear h1 h2 hv hnm
    go_enter Tryd.func72, Tryd.ntmps72
    go_wp2_with fail
    go_ret
    exact ⟨rfl, Below.refl _ _⟩
set_option maxHeartbeats 8000000 in
theorem kSame_any (s t : Sys) (w : World) (hs : s.At w) (ht : t.At w) (hsm : SysSm s) (htm : SysSm t) (v : Bool) (hv : v = true ↔ SameS s t) :
    Calls Tryd.prog 20 #[.agg #[.slice s.ba s.nb s.bc, .slice s.ra s.nr s.rc], .agg #[.slice t.ba t.nb t.bc, .slice t.ra t.nr t.rc]] w fun e w' => e = .returned (.bool v) ∧ Below w.heap.size w w' := by
  obtain ⟨w1, hw1⟩ : ∃ W, W = (w.alloc (Obj.cells #[Value.slice s.ba s.nb s.bc, .slice s.ra s.nr s.rc] 36)).alloc (Obj.cells #[Value.slice t.ba t.nb t.bc, .slice t.ra t.nr t.rc] 36) := ⟨_, rfl⟩
  obtain ⟨x2, hx2⟩ : ∃ x, x = w.heap.size := ⟨_, rfl⟩
  obtain ⟨x3, hx3⟩ : ∃ x, x = w.heap.size + 1 := ⟨_, rfl⟩
  have hB0 : Below (w.alloc (Obj.cells #[Value.slice s.ba s.nb s.bc, .slice s.ra s.nr s.rc] 36)).heap.size (w.alloc (Obj.cells #[Value.slice s.ba s.nb s.bc, .slice s.ra s.nr s.rc] 36)) w1 := by rw [hw1]; exact (Below.refl _ _).alloc (Nat.le_refl _) _
  have hC2 : C2 w1 x2 (Value.slice s.ba s.nb s.bc) (.slice s.ra s.nr s.rc) := by rw [hx2]; exact (C2.new w _ _ _).on hB0
  have hC3 : C2 w1 x3 (Value.slice t.ba t.nb t.bc) (.slice t.ra t.nr t.rc) := by
    rw [hw1, hx3, show w.heap.size + 1 = (w.alloc (Obj.cells #[Value.slice s.ba s.nb s.bc, .slice s.ra s.nr s.rc] 36)).heap.size by simp]
    exact C2.new _ _ _ _
  have hB : Below w.heap.size w w1 := below_on ((Below.refl _ _).alloc (Nat.le_refl _) _) hB0
  have HB := Lib.hid hB
  have HA := Lib.hid hC2
  have HC := Lib.hid hC3
  have HD : Hid (x2 = w.heap.size ∧ x3 = w.heap.size + 1 ∧ w1 = (w.alloc (Obj.cells #[Value.slice s.ba s.nb s.bc, .slice s.ra s.nr s.rc] 36)).alloc (Obj.cells #[Value.slice t.ba t.nb t.bc, .slice t.ra t.nr t.rc] 36)) := ⟨hx2, hx3, hw1⟩
  have HS := Lib.hid (And.intro (hs.on hB) (ht.on hB))
  have c0 := hC2.c0
  have c1 := hC2.c1
  have d0 := hC3.c0
  have d1 := hC3.c1
  obtain ⟨t1, ht1⟩ := kbool_of (s.nb = t.nb ∧ ∀ i, i < s.nb → s.bn i = t.bn i ∧ s.bw i = t.bw i)
  obtain ⟨t2, ht2⟩ := kbool_of (s.nr = t.nr ∧ ∀ k, k < s.nr → SameR (s.R k) (t.R k))
  have hv2 : v = true ↔ t1 = true ∧ t2 = true := by rw [hv, ht1, ht2]; exact Iff.rfl
  have CB := Lib.hid (eqB_any s.ba t.ba s.nb t.nb s.bc t.bc s.bn t.bn s.bw t.bw w1 HS.out.1.b HS.out.2.b (by have := hsm.b; omega) (by have := htm.b; omega) t1 ht1)
  have CR : Hid (∀ W, Below w1.heap.size w1 W → Calls Tryd.prog 72 #[.slice s.ra s.nr s.rc, .slice t.ra t.nr t.rc, .func (.func 73) #[] #[]] W fun e w' => e = .returned (.bool t2) ∧ Below W.heap.size W w') := fun W hW =>
    eqR_any s.ra t.ra s.nr t.nr s.rc t.rc s.R t.R W (HS.out.1.on hW).r (HS.out.2.on hW).r (by have := hsm.r; omega) (by have := htm.r; omega) (fun k hk => by have := hsm.h k hk; omega) (fun k hk => by have := htm.h k hk; omega) t2 ht2
  clear hs ht hsm htm hv ht1 ht2
  clear hx2 hx3 hw1 hB0 hC2 hC3 hB
  cases t1
  · obtain rfl : v = false := no_of hv2 (fun h => by cases h.1)
    clear hv2 CR
    go_enter Tryd.func20, Tryd.ntmps20
    go_upto_region 1 with fail
    rw [← HD.out.2.2, ← HD.out.2.1, ← HD.out.1]
    clear HD
    go_wp2_with (go_at_call 71; (with_reducible refine (CB.out.mono ?_)); rintro e w2 ⟨rfl, hb2⟩; have H2 := Lib.hid (below_on HB.out hb2); clear hb2)
    go_ret
    exact ⟨rfl, H2.out⟩
  · obtain rfl : v = t2 := by
      cases t2
      · exact no_of hv2 (fun h => by cases h.2)
      · exact hv2.2 ⟨rfl, rfl⟩
    clear hv2
    go_enter Tryd.func20, Tryd.ntmps20
    go_upto_region 1 with fail
    rw [← HD.out.2.2, ← HD.out.2.1, ← HD.out.1]
    clear HD
    go_wp2_with (first
      | (go_at_call 71; (with_reducible refine (CB.out.mono ?_)); rintro e w2 ⟨rfl, hb2⟩; have H2 := Lib.hid hb2; clear c0 c1 d0 d1; have c1 := (HA.out.on hb2).c1; have d1 := (HC.out.on hb2).c1; clear hb2)
      | (go_at_call 72; (with_reducible refine ((CR.out _ H2.out).mono ?_)); rintro e w3 ⟨rfl, hb3⟩; have H3 := Lib.hid (below_on HB.out (below_on H2.out hb3)); clear hb3))
    go_ret
    exact ⟨rfl, H3.out⟩
end Go.Proofs.YtcghjjfpjiacfaaDoor
