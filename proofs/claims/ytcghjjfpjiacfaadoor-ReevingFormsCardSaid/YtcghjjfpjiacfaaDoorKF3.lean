/- Layer 10's reference: Same. -/
import Derived.Test.YtcghjjfpjiacfaaDoorKF2
namespace Go.Proofs.YtcghjjfpjiacfaaDoor
open Go.ChangeShapes Go.WideShapes Go.ChangeAt Go.RowKit Go.Joins Go.Deep Go.Shelf
set_option linter.unusedVariables false

set_option maxHeartbeats 8000000 in
theorem rsame1_any (nm nk : ByteArray) (ha hb : Option Addr) (n m hc kc : Nat) (f k : Nat → Hld) (hd he : Bool) (w : World) (h1 : HolR w ha n f) (h2 : HolR w hb m k) (hn : n ≤ 1000) (hm : m ≤ 1000) (v : Bool) (hv : v = true ↔ nm = nk ∧ hd = he ∧ n = m ∧ ∀ i, i < n → (f i).blk = (k i).blk ∧ (f i).pulls = (k i).pulls ∧ (f i).num = (k i).num ∧ (f i).den = (k i).den) :
    Calls Tryd.prog 75 #[.agg #[.string nm, .slice ha n hc, .bool hd], .agg #[.string nk, .slice hb m kc, .bool he]] w fun e w' => e = .returned (.bool v) ∧ Below w.heap.size w w' := by
  obtain ⟨w1, hw1⟩ : ∃ W, W = (w.alloc (Obj.cells #[Value.string nm, .slice ha n hc, .bool hd] 58)).alloc (Obj.cells #[Value.string nk, .slice hb m kc, .bool he] 58) := ⟨_, rfl⟩
  obtain ⟨x2, hx2⟩ : ∃ x, x = w.heap.size := ⟨_, rfl⟩
  obtain ⟨x3, hx3⟩ : ∃ x, x = w.heap.size + 1 := ⟨_, rfl⟩
  have hB0 : Below (w.alloc (Obj.cells #[Value.string nm, .slice ha n hc, .bool hd] 58)).heap.size (w.alloc (Obj.cells #[Value.string nm, .slice ha n hc, .bool hd] 58)) w1 := by rw [hw1]; exact (Below.refl _ _).alloc (Nat.le_refl _) _
  have hC2 : C3 w1 x2 (Value.string nm) (.slice ha n hc) (.bool hd) := by rw [hx2]; exact (C3.new w _ _ _ _).on hB0
  have hC3 : C3 w1 x3 (Value.string nk) (.slice hb m kc) (.bool he) := by
    rw [hw1, hx3, show w.heap.size + 1 = (w.alloc (Obj.cells #[Value.string nm, .slice ha n hc, .bool hd] 58)).heap.size by simp]
    exact C3.new _ _ _ _ _
  have hB : Below w.heap.size w w1 := below_on ((Below.refl _ _).alloc (Nat.le_refl _) _) hB0
  have HB := Lib.hid hB
  have HA := Lib.hid hC2
  have HC := Lib.hid hC3
  have HD : Hid (x2 = w.heap.size ∧ x3 = w.heap.size + 1 ∧ w1 = (w.alloc (Obj.cells #[Value.string nm, .slice ha n hc, .bool hd] 58)).alloc (Obj.cells #[Value.string nk, .slice hb m kc, .bool he] 58)) := ⟨hx2, hx3, hw1⟩
  have HL := Lib.hid (And.intro (h1.on hB) (h2.on hB))
  have c0 := hC2.c0
  have c1 := hC2.c1
  have c2 := hC2.c2
  have d0 := hC3.c0
  have d1 := hC3.c1
  have d2 := hC3.c2
  clear h1 h2
  clear hx2 hx3 hw1 hB0 hC2 hC3 hB
  by_cases e1 : nm = nk
  · subst e1
    by_cases e2 : hd = he
    · subst e2
      by_cases e3 : n = m
      · subst e3
        have HV1 : Hid (v = true ↔ ∀ i, i < n → (f i).blk = (k i).blk ∧ (f i).pulls = (k i).pulls ∧ (f i).num = (k i).num ∧ (f i).den = (k i).den) := ⟨fun h => (hv.1 h).2.2.2, fun h => hv.2 ⟨rfl, rfl, rfl, h⟩⟩
        have HV : Hid (v = true → ∀ i, i < n → (f i).blk = (k i).blk ∧ (f i).pulls = (k i).pulls ∧ (f i).num = (k i).num ∧ (f i).den = (k i).den) := HV1.out.1
        have S0 : Hid (Below w1.heap.size w1 w1 ∧ ∀ j, j < 0 → (f j).blk = (k j).blk ∧ (f j).pulls = (k j).pulls ∧ (f j).num = (k j).num ∧ (f j).den = (k j).den) := ⟨Below.refl _ _, fun j hj => by omega⟩
        clear hv hm
        go_enter Tryd.func75, Tryd.ntmps75
        go_upto_region 1 with fail
        rw [← HD.out.2.2, ← HD.out.2.1, ← HD.out.1]
        clear HD
        go_wp2_with fail
        clear c0 c1 c2 d0 d1 d2
        go_loopg [5] n (fun mm s5 wx => ∃ i : Nat, s5 = .int .i64 (i : Int) ∧ mm = n - i ∧ i ≤ n ∧ Hid (Below w1.heap.size w1 wx ∧ ∀ j, j < i → (f j).blk = (k j).blk ∧ (f j).pulls = (k j).pulls ∧ (f j).num = (k j).num ∧ (f j).den = (k j).den))
        case atStart => exact ⟨0, rfl, rfl, Nat.zero_le _, S0⟩
        case round =>
          clear S0
          obtain ⟨i, rfl, rfl, hi, S⟩ := hrel
          rename World => W1
          have c9 := (S.out.1.cell (p := ⟨x2, 1, none⟩) HA.out.lt).trans HA.out.c1
          by_cases hlt : i < n
          · have li : (i : Int) < (n : Int) := by omega
            have wi : IntKind.i64.wrap ((i : Int) + 1) = ((i + 1 : Nat) : Int) := by rw [IntWalk.i64_in _ (by omega)]; omega
            obtain ⟨b, o, rfl, hbk, hck⟩ := HL.out.1 (by omega)
            obtain ⟨c, d, rfl, hcb, hcc⟩ := HL.out.2 (by omega)
            have d9 := (S.out.1.cell (p := ⟨x3, 1, none⟩) HC.out.lt).trans HC.out.c1
            have HT := Lib.hid (And.intro hbk hck)
            have HU := Lib.hid (And.intro hcb hcc)
            clear hbk hck hcb hcc
            have p1 := (S.out.1.cell (p := ⟨b, o + i * 4, none⟩) HT.out.1).trans (HT.out.2 i hlt).1
            have p2 := (S.out.1.cell (p := ⟨b, o + i * 4 + 1, none⟩) HT.out.1).trans (HT.out.2 i hlt).2.1
            have p3 := (S.out.1.cell (p := ⟨b, o + i * 4 + 2, none⟩) HT.out.1).trans (HT.out.2 i hlt).2.2.1
            have p4 := (S.out.1.cell (p := ⟨b, o + i * 4 + 3, none⟩) HT.out.1).trans (HT.out.2 i hlt).2.2.2
            have q1 := (S.out.1.cell (p := ⟨c, d + i * 4, none⟩) HU.out.1).trans (HU.out.2 i hlt).1
            have q2 := (S.out.1.cell (p := ⟨c, d + i * 4 + 1, none⟩) HU.out.1).trans (HU.out.2 i hlt).2.1
            have q3 := (S.out.1.cell (p := ⟨c, d + i * 4 + 2, none⟩) HU.out.1).trans (HU.out.2 i hlt).2.2.1
            have q4 := (S.out.1.cell (p := ⟨c, d + i * 4 + 3, none⟩) HU.out.1).trans (HU.out.2 i hlt).2.2.2
            have hd1 : ((f i).blk = (k i).blk ∧ (f i).pulls = (k i).pulls ∧ (f i).num = (k i).num ∧ (f i).den = (k i).den) → ∀ j, j < i + 1 → (f j).blk = (k j).blk ∧ (f j).pulls = (k j).pulls ∧ (f j).num = (k j).num ∧ (f j).den = (k j).den := fun h j hj => by
              by_cases e : j = i
              · rw [e]; exact h
              · exact S.out.2 j (by omega)
            have hd2 : ¬ ((f i).blk = (k i).blk ∧ (f i).pulls = (k i).pulls ∧ (f i).num = (k i).num ∧ (f i).den = (k i).den) → v = false := fun h => by
              cases e : v
              · rfl
              · exact absurd (HV.out e i hlt) h
            obtain ⟨x10, hx0⟩ : ∃ z, (f i).blk = z := ⟨_, rfl⟩
            obtain ⟨y10, hy0⟩ : ∃ z, (k i).blk = z := ⟨_, rfl⟩
            rw [hx0] at p1
            rw [hy0] at q1
            obtain ⟨x11, hx1⟩ : ∃ z, (f i).pulls = z := ⟨_, rfl⟩
            obtain ⟨y11, hy1⟩ : ∃ z, (k i).pulls = z := ⟨_, rfl⟩
            rw [hx1] at p2
            rw [hy1] at q2
            obtain ⟨x12, hx2⟩ : ∃ z, (f i).num = z := ⟨_, rfl⟩
            obtain ⟨y12, hy2⟩ : ∃ z, (k i).num = z := ⟨_, rfl⟩
            rw [hx2] at p3
            rw [hy2] at q3
            obtain ⟨x13, hx3⟩ : ∃ z, (f i).den = z := ⟨_, rfl⟩
            obtain ⟨y13, hy3⟩ : ∃ z, (k i).den = z := ⟨_, rfl⟩
            rw [hx3] at p4
            rw [hy3] at q4
            rw [hx0, hy0, hx1, hy1, hx2, hy2, hx3, hy3] at hd1 hd2
            have HD4 := Lib.hid (And.intro hd1 hd2)
            clear hd1 hd2 hx0 hy0 hx1 hy1 hx2 hy2 hx3 hy3
            go_upto_region 6 with fail
            by_cases e0 : x10 = y10
            · subst e0
              by_cases e1 : x11 = y11
              · subst e1
                by_cases e2 : x12 = y12
                · subst e2
                  by_cases e3 : x13 = y13
                  · subst e3
                    go_quiet (fail)
                    have T4 : Hid (Below w1.heap.size w1 (W1.drewN nq) ∧ ∀ j, j < i + 1 → (f j).blk = (k j).blk ∧ (f j).pulls = (k j).pulls ∧ (f j).num = (k j).num ∧ (f j).den = (k j).den) := ⟨below_drewN' S.out.1 nq, HD4.out.1 (by simp)⟩
                    clear p1 q1 p2 q2 p3 q3 p4 q4 c9 d9 HD4 S
                    go_wp2_with fail
                    go_roundg (n - (i + 1))
                    case measure => omega
                    case rel => exact ⟨i + 1, rfl, rfl, by omega, T4⟩
                  · have en : (x13 == y13) = false := by simpa using e3
                    go_quiet (fail)
                    obtain rfl : v = false := HD4.out.2 (by simp_all)
                    have hB4 := Lib.hid S.out.1
                    clear p1 q1 p2 q2 p3 q3 p4 q4 c9 d9 HD4 S
                    go_wp2_with fail
                    go_ret
                    exact ⟨rfl, below_on HB.out (below_drewN' hB4.out _)⟩
                · have en : (x12 == y12) = false := by simpa using e2
                  go_quiet (fail)
                  obtain rfl : v = false := HD4.out.2 (by simp_all)
                  have hB4 := Lib.hid S.out.1
                  clear p1 q1 p2 q2 p3 q3 p4 q4 c9 d9 HD4 S
                  go_wp2_with fail
                  go_ret
                  exact ⟨rfl, below_on HB.out (below_drewN' hB4.out _)⟩
              · have en : (x11 == y11) = false := by simpa using e1
                go_quiet (fail)
                obtain rfl : v = false := HD4.out.2 (by simp_all)
                have hB4 := Lib.hid S.out.1
                clear p1 q1 p2 q2 p3 q3 p4 q4 c9 d9 HD4 S
                go_wp2_with fail
                go_ret
                exact ⟨rfl, below_on HB.out (below_drewN' hB4.out _)⟩
            · have en := str_neq e0
              go_quiet (fail)
              obtain rfl : v = false := HD4.out.2 (by simp_all)
              have hB4 := Lib.hid S.out.1
              clear p1 q1 p2 q2 p3 q3 p4 q4 c9 d9 HD4 S
              go_wp2_with fail
              go_ret
              exact ⟨rfl, below_on HB.out (below_drewN' hB4.out _)⟩
          · have li : ¬ (i : Int) < (n : Int) := by omega
            have e : n = i := by omega
            subst e
            obtain rfl : v = true := HV1.out.2 S.out.2
            have hB4 := Lib.hid (below_on HB.out S.out.1)
            clear S
            go_wp2_with fail
            go_ret
            exact ⟨rfl, hB4.out⟩
      · obtain rfl : v = false := no_of hv (fun h => e3 h.2.2.1)
        have hne : ((n : Int) == (m : Int)) = false := by simp; omega
        have hne2 : ¬ (n : Int) = (m : Int) := by omega
        clear hv e3
        go_enter Tryd.func75, Tryd.ntmps75
        go_upto_region 1 with fail
        rw [← HD.out.2.2, ← HD.out.2.1, ← HD.out.1]
        clear HD
        go_wp2_with fail
        go_ret
        exact ⟨rfl, HB.out⟩
    · have en : (hd == he) = false := by simpa using e2
      obtain rfl : v = false := no_of hv (fun h => e2 h.2.1)
      clear hv e2
      go_enter Tryd.func75, Tryd.ntmps75
      go_upto_region 1 with fail
      rw [← HD.out.2.2, ← HD.out.2.1, ← HD.out.1]
      clear HD
      go_wp2_with fail
      go_ret
      exact ⟨rfl, HB.out⟩
  · have en := str_neq e1
    obtain rfl : v = false := no_of hv (fun h => e1 h.1)
    clear hv e1
    go_enter Tryd.func75, Tryd.ntmps75
    go_upto_region 1 with fail
    rw [← HD.out.2.2, ← HD.out.2.1, ← HD.out.1]
    clear HD
    go_wp2_with fail
    go_ret
    exact ⟨rfl, HB.out⟩
structure KfsR (s t : Sys) (x2 x3 b o c d nr k : Nat) (tt nt : Bool) (Wc : World) (L : Nat → Bool) (v : Nat → Value) (W : World) : Prop where
  st : Below Wc.heap.size Wc W
  w1 : Had L 1 (∀ j ∈ [0], L j = true)
  w3 : Had L 3 (∀ j ∈ [1, 2], L j = true)
  w4 : Had L 4 (∀ j ∈ [3], L j = true)
  w6 : Had L 6 (∀ j ∈ [5], L j = true)
  w8 : Had L 8 (∀ j ∈ [6, 7], L j = true)
  w9 : Had L 9 (∀ j ∈ [8], L j = true)
  w10 : Had L 10 (∀ j ∈ [4, 9], L j = true)
  w11 : Had L 11 (∀ j ∈ [10], L j = true)
  f0 : Had L 0 (v 48 = .pointer (some ⟨x2, 1, none⟩))
  f1 : Had L 1 (v 49 = .slice (some ⟨b, o, none⟩) (nr) (s.rc))
  f2 : Had L 2 (v 50 = .int .i64 (k : Int))
  f3 : Had L 3 (v 51 = .pointer (some ⟨b, o + k * 3, none⟩))
  f4 : Had L 4 (v 52 = .agg #[.string (s.R k).name, .slice (s.R k).ha (s.R k).n (s.R k).hc, .bool (s.R k).hauled])
  f5 : Had L 5 (v 53 = .pointer (some ⟨x3, 1, none⟩))
  f6 : Had L 6 (v 54 = .slice (some ⟨c, d, none⟩) (nr) (t.rc))
  f7 : Had L 7 (v 55 = .int .i64 (k : Int))
  f8 : Had L 8 (v 56 = .pointer (some ⟨c, d + k * 3, none⟩))
  f9 : Had L 9 (v 57 = .agg #[.string (t.R k).name, .slice (t.R k).ha (t.R k).n (t.R k).hc, .bool (t.R k).hauled])
  f10 : Had L 10 (v 58 = .bool tt)
  f11 : Had L 11 (v 59 = .bool nt)
set_option maxHeartbeats 8000000 in
theorem rSame_any (s t : Sys) (w : World) (hs : s.At w) (ht : t.At w) (hsm : SysSm s) (htm : SysSm t) (v : Bool) (hv : v = true ↔ SameS s t) :
    Calls Tryd.prog 21 #[.agg #[.slice s.ba s.nb s.bc, .slice s.ra s.nr s.rc], .agg #[.slice t.ba t.nb t.bc, .slice t.ra t.nr t.rc]] w fun e w' => e = .returned (.bool v) ∧ Below w.heap.size w w' := by
  obtain ⟨w1, hw1⟩ : ∃ W, W = (w.alloc (Obj.cells #[Value.slice s.ba s.nb s.bc, .slice s.ra s.nr s.rc] 36)).alloc (Obj.cells #[Value.slice t.ba t.nb t.bc, .slice t.ra t.nr t.rc] 36) := ⟨_, rfl⟩
  obtain ⟨x2, hx2⟩ : ∃ x, x = w.heap.size := ⟨_, rfl⟩
  obtain ⟨x3, hx3⟩ : ∃ x, x = w.heap.size + 1 := ⟨_, rfl⟩
  have hB0 : Below (w.alloc (Obj.cells #[Value.slice s.ba s.nb s.bc, .slice s.ra s.nr s.rc] 36)).heap.size (w.alloc (Obj.cells #[Value.slice s.ba s.nb s.bc, .slice s.ra s.nr s.rc] 36)) w1 := by rw [hw1]; exact (Below.refl _ _).alloc (Nat.le_refl _) _
  have hC2 : C2 w1 x2 (Value.slice s.ba s.nb s.bc) (.slice s.ra s.nr s.rc) := by rw [hx2]; exact (C2.new w _ _ _).on hB0
  have hC3 : C2 w1 x3 (Value.slice t.ba t.nb t.bc) (.slice t.ra t.nr t.rc) := by
    rw [hw1, hx3, show w.heap.size + 1 = (w.alloc (Obj.cells #[Value.slice s.ba s.nb s.bc, .slice s.ra s.nr s.rc] 36)).heap.size by simp]
    exact C2.new _ _ _ _
  have hB : Below w.heap.size w w1 := below_on ((Below.refl _ _).alloc (Nat.le_refl _) _) hB0
  have HB := Lib.hid hB
  have HA := Lib.hid hC2
  have HC := Lib.hid hC3
  have HD : Hid (x2 = w.heap.size ∧ x3 = w.heap.size + 1 ∧ w1 = (w.alloc (Obj.cells #[Value.slice s.ba s.nb s.bc, .slice s.ra s.nr s.rc] 36)).alloc (Obj.cells #[Value.slice t.ba t.nb t.bc, .slice t.ra t.nr t.rc] 36)) := ⟨hx2, hx3, hw1⟩
  have c0 := hC2.c0
  have c1 := hC2.c1
  have d0 := hC3.c0
  have d1 := hC3.c1
  have hb9 := hsm.b
  have hr9 := hsm.r
  by_cases e1 : s.nb = t.nb
  · by_cases e2 : s.nr = t.nr
    · have HV : Hid (v = true → ∀ i, i < s.nb → s.bn i = t.bn i ∧ s.bw i = t.bw i) := fun h => (hv.1 h).1.2
      have HV3 : Hid (v = true → ∀ k, k < s.nr → SameR (s.R k) (t.R k)) := fun h => (hv.1 h).2.2
      have HV5 : Hid ((∀ i, i < s.nb → s.bn i = t.bn i ∧ s.bw i = t.bw i) → (∀ k, k < s.nr → SameR (s.R k) (t.R k)) → v = true) := fun h1 h2 => hv.2 ⟨⟨e1, h1⟩, e2, h2⟩
      have HSB : Hid (BlkR w1 s.ba s.nb s.bn s.bw ∧ BlkR w1 t.ba s.nb t.bn t.bw) := ⟨(hs.on hB).b, by rw [e1]; exact (ht.on hB).b⟩
      have HSR : Hid (RopR w1 s.ra s.nr s.R ∧ RopR w1 t.ra s.nr t.R) := ⟨(hs.on hB).r, by rw [e2]; exact (ht.on hB).r⟩
      have HN : Hid (∀ k, k < s.nr → (s.R k).n ≤ 1000 ∧ (t.R k).n ≤ 1000) := fun k hk => ⟨by have := hsm.h k hk; omega, by have := htm.h k (by omega); omega⟩
      rw [← e1] at HC HD d0
      rw [← e2] at HC HD d1
      rw [← e1, ← e2]
      obtain ⟨ba, hba⟩ : ∃ x, s.ba = x := ⟨_, rfl⟩
      obtain ⟨ca, hca⟩ : ∃ x, t.ba = x := ⟨_, rfl⟩
      obtain ⟨ra, hra⟩ : ∃ x, s.ra = x := ⟨_, rfl⟩
      obtain ⟨qa, hqa⟩ : ∃ x, t.ra = x := ⟨_, rfl⟩
      obtain ⟨n, hn⟩ : ∃ x, s.nb = x := ⟨_, rfl⟩
      obtain ⟨nr, hnr⟩ : ∃ x, s.nr = x := ⟨_, rfl⟩
      rw [hba, hn] at c0 HA HD
      rw [hca, hn] at d0 HC
      rw [hca] at HD
      rw [hra, hnr] at c1 HA HD
      rw [hqa, hnr] at d1 HC
      rw [hqa] at HD
      rw [hba, hca, hn] at HSB
      rw [hra, hqa, hnr] at HSR
      rw [hn] at HV HV5 hb9
      rw [hnr] at HV3 HV5 HN hr9
      rw [hba, hca, hra, hqa, hn, hnr]
      have S0 : Hid (Below w1.heap.size w1 w1 ∧ ∀ j, j < 0 → s.bn j = t.bn j ∧ s.bw j = t.bw j) := ⟨Below.refl _ _, fun j hj => by omega⟩
      clear hs ht hsm htm hv e1 e2 hba hca hra hqa hn hnr
      clear hx2 hx3 hw1 hB0 hC2 hC3 hB
      go_enter Tryd.func21, Tryd.ntmps21
      go_upto_region 1 with fail
      rw [← HD.out.2.2, ← HD.out.2.1, ← HD.out.1]
      clear HD
      go_wp2_with fail
      clear c0 c1 d0 d1
      go_loopg [5] n (fun mm s5 wx => ∃ i : Nat, s5 = .int .i64 (i : Int) ∧ mm = n - i ∧ i ≤ n ∧ Hid (Below w1.heap.size w1 wx ∧ ∀ j, j < i → s.bn j = t.bn j ∧ s.bw j = t.bw j))
      case atStart => exact ⟨0, rfl, rfl, Nat.zero_le _, S0⟩
      case round =>
        clear S0
        obtain ⟨i, rfl, rfl, hi, S⟩ := hrel
        rename World => W1
        have c9 := (S.out.1.cell (p := ⟨x2, 0, none⟩) HA.out.lt).trans HA.out.c0
        by_cases hlt : i < n
        · have li : (i : Int) < (n : Int) := by omega
          have wi : IntKind.i64.wrap ((i : Int) + 1) = ((i + 1 : Nat) : Int) := by rw [IntWalk.i64_in _ (by omega)]; omega
          obtain ⟨b, o, rfl, hbk, hck⟩ := HSB.out.1 (by omega)
          obtain ⟨c, d, rfl, hcb, hcc⟩ := HSB.out.2 (by omega)
          have d9 := (S.out.1.cell (p := ⟨x3, 0, none⟩) HC.out.lt).trans HC.out.c0
          have HT := Lib.hid (And.intro hbk hck)
          have HU := Lib.hid (And.intro hcb hcc)
          clear hbk hck hcb hcc
          have p1 := (S.out.1.cell (p := ⟨b, o + i * 2, none⟩) HT.out.1).trans (HT.out.2 i hlt).1
          have p2 := (S.out.1.cell (p := ⟨b, o + i * 2 + 1, none⟩) HT.out.1).trans (HT.out.2 i hlt).2
          have q1 := (S.out.1.cell (p := ⟨c, d + i * 2, none⟩) HU.out.1).trans (HU.out.2 i hlt).1
          have q2 := (S.out.1.cell (p := ⟨c, d + i * 2 + 1, none⟩) HU.out.1).trans (HU.out.2 i hlt).2
          have hd1 : (s.bn i = t.bn i ∧ s.bw i = t.bw i) → ∀ j, j < i + 1 → s.bn j = t.bn j ∧ s.bw j = t.bw j := fun h j hj => by
            by_cases e : j = i
            · rw [e]; exact h
            · exact S.out.2 j (by omega)
          have hd2 : ¬ (s.bn i = t.bn i ∧ s.bw i = t.bw i) → v = false := fun h => by
            cases e : v
            · rfl
            · exact absurd (HV.out e i hlt) h
          obtain ⟨x10, hx0⟩ : ∃ z, s.bn i = z := ⟨_, rfl⟩
          obtain ⟨y10, hy0⟩ : ∃ z, t.bn i = z := ⟨_, rfl⟩
          rw [hx0] at p1
          rw [hy0] at q1
          obtain ⟨x11, hx1⟩ : ∃ z, s.bw i = z := ⟨_, rfl⟩
          obtain ⟨y11, hy1⟩ : ∃ z, t.bw i = z := ⟨_, rfl⟩
          rw [hx1] at p2
          rw [hy1] at q2
          rw [hx0, hy0, hx1, hy1] at hd1 hd2
          have HD4 := Lib.hid (And.intro hd1 hd2)
          clear hd1 hd2 hx0 hy0 hx1 hy1
          go_upto_region 6 with fail
          by_cases e0 : x10 = y10
          · subst e0
            by_cases e1 : x11 = y11
            · subst e1
              go_quiet (fail)
              have T4 : Hid (Below w1.heap.size w1 (W1.drewN nq) ∧ ∀ j, j < i + 1 → s.bn j = t.bn j ∧ s.bw j = t.bw j) := ⟨below_drewN' S.out.1 nq, HD4.out.1 (by simp)⟩
              clear p1 q1 p2 q2 c9 d9 HD4 S
              go_wp2_with fail
              go_roundg (n - (i + 1))
              case measure => omega
              case rel => exact ⟨i + 1, rfl, rfl, by omega, T4⟩
            · have en : (x11 == y11) = false := by simpa using e1
              go_quiet (fail)
              obtain rfl : v = false := HD4.out.2 (by simp_all)
              have hB4 := Lib.hid S.out.1
              clear p1 q1 p2 q2 c9 d9 HD4 S
              go_wp2_with fail
              go_ret
              exact ⟨rfl, below_on HB.out (below_drewN' hB4.out _)⟩
          · have en := str_neq e0
            go_quiet (fail)
            obtain rfl : v = false := HD4.out.2 (by simp_all)
            have hB4 := Lib.hid S.out.1
            clear p1 q1 p2 q2 c9 d9 HD4 S
            go_wp2_with fail
            go_ret
            exact ⟨rfl, below_on HB.out (below_drewN' hB4.out _)⟩
        · have li : ¬ (i : Int) < (n : Int) := by omega
          have e : n = i := by omega
          subst e
          have T0 : Hid (Below w1.heap.size w1 W1 ∧ ∀ j, j < 0 → SameR (s.R j) (t.R j)) := ⟨S.out.1, fun j hj => by omega⟩
          have HBK := Lib.hid S.out.2
          clear S li hlt hi
          go_wp2_with fail
          clear c9
          go_loopg [6] nr (fun mm s6 wx => ∃ k : Nat, s6 = .int .i64 (k : Int) ∧ mm = nr - k ∧ k ≤ nr ∧ Hid (Below w1.heap.size w1 wx ∧ ∀ j, j < k → SameR (s.R j) (t.R j)))
          case atStart => exact ⟨0, rfl, rfl, Nat.zero_le _, T0⟩
          case round =>
            clear T0
            obtain ⟨k, rfl, rfl, hk, S⟩ := hrel
            rename World => W1
            have c9 := (S.out.1.cell (p := ⟨x2, 1, none⟩) HA.out.lt).trans HA.out.c1
            by_cases hlt : k < nr
            · have li : (k : Int) < (nr : Int) := by omega
              have wi : IntKind.i64.wrap ((k : Int) + 1) = ((k + 1 : Nat) : Int) := by rw [IntWalk.i64_in _ (by omega)]; omega
              obtain ⟨b, o, rfl, hbk, hck⟩ := HSR.out.1.l (by omega)
              obtain ⟨c, d, rfl, hcb, hcc⟩ := HSR.out.2.l (by omega)
              have L1 := Lib.hid (And.intro c9 (Nat.lt_of_lt_of_le HA.out.lt S.out.1.size))
              have L2 := Lib.hid (And.intro ((S.out.1.cell (p := ⟨x3, 1, none⟩) HC.out.lt).trans HC.out.c1) (Nat.lt_of_lt_of_le HC.out.lt S.out.1.size))
              have HT := Lib.hid (And.intro hbk hck)
              have HU := Lib.hid (And.intro hcb hcc)
              clear hbk hck hcb hcc
              have p1 := (S.out.1.cell (p := ⟨b, o + k * 3, none⟩) HT.out.1).trans (HT.out.2 k hlt).1
              have p2 := (S.out.1.cell (p := ⟨b, o + k * 3 + 1, none⟩) HT.out.1).trans (HT.out.2 k hlt).2.1
              have p3 := (S.out.1.cell (p := ⟨b, o + k * 3 + 2, none⟩) HT.out.1).trans (HT.out.2 k hlt).2.2
              have q1 := (S.out.1.cell (p := ⟨c, d + k * 3, none⟩) HU.out.1).trans (HU.out.2 k hlt).1
              have q2 := (S.out.1.cell (p := ⟨c, d + k * 3 + 1, none⟩) HU.out.1).trans (HU.out.2 k hlt).2.1
              have q3 := (S.out.1.cell (p := ⟨c, d + k * 3 + 2, none⟩) HU.out.1).trans (HU.out.2 k hlt).2.2
              have lb := Nat.lt_of_lt_of_le HT.out.1 S.out.1.size
              have lc := Nat.lt_of_lt_of_le HU.out.1 S.out.1.size
              have P1 := Lib.hid (And.intro p1 lb)
              have P2 := Lib.hid (And.intro p2 lb)
              have P3 := Lib.hid (And.intro p3 lb)
              have Q1 := Lib.hid (And.intro q1 lc)
              have Q2 := Lib.hid (And.intro q2 lc)
              have Q3 := Lib.hid (And.intro q3 lc)
              obtain ⟨tt, htt⟩ := kbool_of (SameR (s.R k) (t.R k))
              obtain ⟨nt, hnt⟩ : ∃ z, (!tt) = z := ⟨_, rfl⟩
              have HNT := Lib.hid hnt
              have hd1 : SameR (s.R k) (t.R k) → ∀ j, j < k + 1 → SameR (s.R j) (t.R j) := fun h j hj => by
                by_cases e : j = k
                · rw [e]; exact h
                · exact S.out.2 j (by omega)
              have hd2 : ¬ SameR (s.R k) (t.R k) → v = false := fun h => by
                cases e : v
                · rfl
                · exact absurd (HV3.out e k hlt) h
              have HX : Hid ((tt = true → ∀ j, j < k + 1 → SameR (s.R j) (t.R j)) ∧ (tt = false → v = false)) := ⟨fun h => hd1 (htt.1 h), fun h => hd2 (fun q => by rw [htt.2 q] at h; cases h)⟩
              have CX : Hid (∀ W, Below W1.heap.size W1 W → Calls Tryd.prog 75 #[.agg #[.string (s.R k).name, .slice (s.R k).ha (s.R k).n (s.R k).hc, .bool (s.R k).hauled], .agg #[.string (t.R k).name, .slice (t.R k).ha (t.R k).n (t.R k).hc, .bool (t.R k).hauled]] W fun e w' => e = .returned (.bool tt) ∧ Below W.heap.size W w') := fun W hW =>
                rsame1_any (s.R k).name (t.R k).name (s.R k).ha (t.R k).ha (s.R k).n (t.R k).n (s.R k).hc (t.R k).hc (s.R k).hs (t.R k).hs (s.R k).hauled (t.R k).hauled W ((HSR.out.1.h k hlt).on (below_on S.out.1 hW)) ((HSR.out.2.h k hlt).on (below_on S.out.1 hW)) (HN.out k hlt).1 (HN.out k hlt).2 tt htt
              clear hd1 hd2 htt p1 p2 p3 q1 q2 q3 lb lc
              go_upto_region 11 with fail
              refine wp_region_each (fun L A W => ∃ (v : Nat → Value), A = ⟨#[_, _, _, _, _, _, _, _, _, _, _, _, _, _, _, _, _, _, _, _, _, _, _, _, _, _, _, _, _, _, _, _, _, _, _, _, _, _, _, _, _, _, _, _, _, _, _, _, v 48, v 49, v 50, v 51, v 52, v 53, v 54, v 55, v 56, v 57, v 58, v 59], []⟩ ∧ KfsR s t x2 x3 b o c d nr k tt nt W1 L v W) (by kernel_rfl) (by kernel_rfl) ⟨fun jz => if jz = 48 then u48 else if jz = 49 then u49 else if jz = 50 then u50 else if jz = 51 then u51 else if jz = 52 then u52 else if jz = 53 then u53 else if jz = 54 then u54 else if jz = 55 then u55 else if jz = 56 then u56 else if jz = 57 then u57 else if jz = 58 then u58 else if jz = 59 then u59 else undef, rfl, ⟨Below.drew (Below.refl _ _), Had.none, Had.none, Had.none, Had.none, Had.none, Had.none, Had.none, Had.none, Had.none, Had.none, Had.none, Had.none, Had.none, Had.none, Had.none, Had.none, Had.none, Had.none, Had.none, Had.none⟩⟩ (rs := [0, 1, 2, 3, 4, 5, 6, 7, 8, 9, 10, 11]) (by kernel_rfl) ?_ ?_
              · refine EachOf.cons [] rfl (by kernel_rfl) ?_ ?_
                · rintro L A W ⟨v, rfl, hR⟩ hi hw K hK
                  go_simp
                  refine hK.out _ _ ?_
                  exact ⟨(fun jz => if jz = 48 then .pointer (some ⟨x2, 1, none⟩) else v jz), rfl, ⟨hR.st, hR.w1.o, hR.w3.o, hR.w4.o, hR.w6.o, hR.w8.o, hR.w9.o, hR.w10.o, hR.w11.o, (fun _ => rfl), hR.f1.k, hR.f2.k, hR.f3.k, hR.f4.k, hR.f5.k, hR.f6.k, hR.f7.k, hR.f8.k, hR.f9.k, hR.f10.k, hR.f11.k⟩⟩
                refine EachOf.cons [0] rfl (by kernel_rfl) ?_ ?_
                · rintro L A W ⟨v, rfl, hR⟩ hi hw K hK
                  have e0 := hR.f0 (hw 0 (by simp))
                  simp only [e0]
                  clear e0
                  have q0 := (hR.st.cell (p := ⟨x2, 1, none⟩) L1.out.2).trans L1.out.1
                  go_simp
                  refine hK.out _ _ ?_
                  exact ⟨(fun jz => if jz = 48 then .pointer (some ⟨x2, 1, none⟩) else if jz = 49 then .slice (some ⟨b, o, none⟩) (nr) (s.rc) else v jz), rfl, ⟨hR.st, (fun _ j hj => upd_on (hw j hj)), hR.w3.o, hR.w4.o, hR.w6.o, hR.w8.o, hR.w9.o, hR.w10.o, hR.w11.o, (fun _ => rfl), (fun _ => rfl), hR.f2.k, hR.f3.k, hR.f4.k, hR.f5.k, hR.f6.k, hR.f7.k, hR.f8.k, hR.f9.k, hR.f10.k, hR.f11.k⟩⟩
                refine EachOf.cons [] rfl (by kernel_rfl) ?_ ?_
                · rintro L A W ⟨v, rfl, hR⟩ hi hw K hK
                  go_simp
                  refine hK.out _ _ ?_
                  exact ⟨(fun jz => if jz = 50 then .int .i64 (k : Int) else v jz), rfl, ⟨hR.st, hR.w1.o, hR.w3.o, hR.w4.o, hR.w6.o, hR.w8.o, hR.w9.o, hR.w10.o, hR.w11.o, hR.f0.k, hR.f1.k, (fun _ => rfl), hR.f3.k, hR.f4.k, hR.f5.k, hR.f6.k, hR.f7.k, hR.f8.k, hR.f9.k, hR.f10.k, hR.f11.k⟩⟩
                refine EachOf.cons [1, 2] rfl (by kernel_rfl) ?_ ?_
                · rintro L A W ⟨v, rfl, hR⟩ hi hw K hK
                  have e1 := hR.f1 (hw 1 (by simp))
                  have e2 := hR.f2 (hw 2 (by simp))
                  simp only [e1, e2]
                  clear e1 e2
                  go_simp
                  refine hK.out _ _ ?_
                  exact ⟨(fun jz => if jz = 49 then .slice (some ⟨b, o, none⟩) (nr) (s.rc) else if jz = 50 then .int .i64 (k : Int) else if jz = 51 then .pointer (some ⟨b, o + k * 3, none⟩) else v jz), rfl, ⟨hR.st, hR.w1.o, (fun _ j hj => upd_on (hw j hj)), hR.w4.o, hR.w6.o, hR.w8.o, hR.w9.o, hR.w10.o, hR.w11.o, hR.f0.k, (fun _ => rfl), (fun _ => rfl), (fun _ => rfl), hR.f4.k, hR.f5.k, hR.f6.k, hR.f7.k, hR.f8.k, hR.f9.k, hR.f10.k, hR.f11.k⟩⟩
                refine EachOf.cons [3] rfl (by kernel_rfl) ?_ ?_
                · rintro L A W ⟨v, rfl, hR⟩ hi hw K hK
                  have e3 := hR.f3 (hw 3 (by simp))
                  simp only [e3]
                  clear e3
                  have q0 := (hR.st.cell (p := ⟨b, o + k * 3, none⟩) P1.out.2).trans P1.out.1
                  have q1 := (hR.st.cell (p := ⟨b, o + k * 3 + 1, none⟩) P2.out.2).trans P2.out.1
                  have q2 := (hR.st.cell (p := ⟨b, o + k * 3 + 2, none⟩) P3.out.2).trans P3.out.1
                  go_simp
                  refine hK.out _ _ ?_
                  exact ⟨(fun jz => if jz = 51 then .pointer (some ⟨b, o + k * 3, none⟩) else if jz = 52 then .agg #[.string (s.R k).name, .slice (s.R k).ha (s.R k).n (s.R k).hc, .bool (s.R k).hauled] else v jz), rfl, ⟨hR.st, hR.w1.o, hR.w3.o, (fun _ j hj => upd_on (hw j hj)), hR.w6.o, hR.w8.o, hR.w9.o, hR.w10.o, hR.w11.o, hR.f0.k, hR.f1.k, hR.f2.k, (fun _ => rfl), (fun _ => rfl), hR.f5.k, hR.f6.k, hR.f7.k, hR.f8.k, hR.f9.k, hR.f10.k, hR.f11.k⟩⟩
                refine EachOf.cons [] rfl (by kernel_rfl) ?_ ?_
                · rintro L A W ⟨v, rfl, hR⟩ hi hw K hK
                  go_simp
                  refine hK.out _ _ ?_
                  exact ⟨(fun jz => if jz = 53 then .pointer (some ⟨x3, 1, none⟩) else v jz), rfl, ⟨hR.st, hR.w1.o, hR.w3.o, hR.w4.o, hR.w6.o, hR.w8.o, hR.w9.o, hR.w10.o, hR.w11.o, hR.f0.k, hR.f1.k, hR.f2.k, hR.f3.k, hR.f4.k, (fun _ => rfl), hR.f6.k, hR.f7.k, hR.f8.k, hR.f9.k, hR.f10.k, hR.f11.k⟩⟩
                refine EachOf.cons [5] rfl (by kernel_rfl) ?_ ?_
                · rintro L A W ⟨v, rfl, hR⟩ hi hw K hK
                  have e5 := hR.f5 (hw 5 (by simp))
                  simp only [e5]
                  clear e5
                  have q0 := (hR.st.cell (p := ⟨x3, 1, none⟩) L2.out.2).trans L2.out.1
                  go_simp
                  refine hK.out _ _ ?_
                  exact ⟨(fun jz => if jz = 53 then .pointer (some ⟨x3, 1, none⟩) else if jz = 54 then .slice (some ⟨c, d, none⟩) (nr) (t.rc) else v jz), rfl, ⟨hR.st, hR.w1.o, hR.w3.o, hR.w4.o, (fun _ j hj => upd_on (hw j hj)), hR.w8.o, hR.w9.o, hR.w10.o, hR.w11.o, hR.f0.k, hR.f1.k, hR.f2.k, hR.f3.k, hR.f4.k, (fun _ => rfl), (fun _ => rfl), hR.f7.k, hR.f8.k, hR.f9.k, hR.f10.k, hR.f11.k⟩⟩
                refine EachOf.cons [] rfl (by kernel_rfl) ?_ ?_
                · rintro L A W ⟨v, rfl, hR⟩ hi hw K hK
                  go_simp
                  refine hK.out _ _ ?_
                  exact ⟨(fun jz => if jz = 55 then .int .i64 (k : Int) else v jz), rfl, ⟨hR.st, hR.w1.o, hR.w3.o, hR.w4.o, hR.w6.o, hR.w8.o, hR.w9.o, hR.w10.o, hR.w11.o, hR.f0.k, hR.f1.k, hR.f2.k, hR.f3.k, hR.f4.k, hR.f5.k, hR.f6.k, (fun _ => rfl), hR.f8.k, hR.f9.k, hR.f10.k, hR.f11.k⟩⟩
                refine EachOf.cons [6, 7] rfl (by kernel_rfl) ?_ ?_
                · rintro L A W ⟨v, rfl, hR⟩ hi hw K hK
                  have e6 := hR.f6 (hw 6 (by simp))
                  have e7 := hR.f7 (hw 7 (by simp))
                  simp only [e6, e7]
                  clear e6 e7
                  go_simp
                  refine hK.out _ _ ?_
                  exact ⟨(fun jz => if jz = 54 then .slice (some ⟨c, d, none⟩) (nr) (t.rc) else if jz = 55 then .int .i64 (k : Int) else if jz = 56 then .pointer (some ⟨c, d + k * 3, none⟩) else v jz), rfl, ⟨hR.st, hR.w1.o, hR.w3.o, hR.w4.o, hR.w6.o, (fun _ j hj => upd_on (hw j hj)), hR.w9.o, hR.w10.o, hR.w11.o, hR.f0.k, hR.f1.k, hR.f2.k, hR.f3.k, hR.f4.k, hR.f5.k, (fun _ => rfl), (fun _ => rfl), (fun _ => rfl), hR.f9.k, hR.f10.k, hR.f11.k⟩⟩
                refine EachOf.cons [8] rfl (by kernel_rfl) ?_ ?_
                · rintro L A W ⟨v, rfl, hR⟩ hi hw K hK
                  have e8 := hR.f8 (hw 8 (by simp))
                  simp only [e8]
                  clear e8
                  have q0 := (hR.st.cell (p := ⟨c, d + k * 3, none⟩) Q1.out.2).trans Q1.out.1
                  have q1 := (hR.st.cell (p := ⟨c, d + k * 3 + 1, none⟩) Q2.out.2).trans Q2.out.1
                  have q2 := (hR.st.cell (p := ⟨c, d + k * 3 + 2, none⟩) Q3.out.2).trans Q3.out.1
                  go_simp
                  refine hK.out _ _ ?_
                  exact ⟨(fun jz => if jz = 56 then .pointer (some ⟨c, d + k * 3, none⟩) else if jz = 57 then .agg #[.string (t.R k).name, .slice (t.R k).ha (t.R k).n (t.R k).hc, .bool (t.R k).hauled] else v jz), rfl, ⟨hR.st, hR.w1.o, hR.w3.o, hR.w4.o, hR.w6.o, hR.w8.o, (fun _ j hj => upd_on (hw j hj)), hR.w10.o, hR.w11.o, hR.f0.k, hR.f1.k, hR.f2.k, hR.f3.k, hR.f4.k, hR.f5.k, hR.f6.k, hR.f7.k, (fun _ => rfl), (fun _ => rfl), hR.f10.k, hR.f11.k⟩⟩
                refine EachOf.cons [4, 9] rfl (by kernel_rfl) ?_ ?_
                · rintro L A W ⟨v, rfl, hR⟩ hi hw K hK
                  have e4 := hR.f4 (hw 4 (by simp))
                  have e9 := hR.f9 (hw 9 (by simp))
                  simp only [e4, e9]
                  clear e4 e9
                  go_simp
                  go_at_call 75
                  (with_reducible refine ((Lib.hid (CX.out W hR.st)).out).mono ?_)
                  rintro e w2 ⟨rfl, hb⟩
                  go_simp
                  refine hK.out _ _ ?_
                  exact ⟨(fun jz => if jz = 52 then .agg #[.string (s.R k).name, .slice (s.R k).ha (s.R k).n (s.R k).hc, .bool (s.R k).hauled] else if jz = 57 then .agg #[.string (t.R k).name, .slice (t.R k).ha (t.R k).n (t.R k).hc, .bool (t.R k).hauled] else if jz = 58 then .bool tt else v jz), rfl, ⟨below_on hR.st hb, hR.w1.o, hR.w3.o, hR.w4.o, hR.w6.o, hR.w8.o, hR.w9.o, (fun _ j hj => upd_on (hw j hj)), hR.w11.o, hR.f0.k, hR.f1.k, hR.f2.k, hR.f3.k, (fun _ => rfl), hR.f5.k, hR.f6.k, hR.f7.k, hR.f8.k, (fun _ => rfl), (fun _ => rfl), hR.f11.k⟩⟩
                refine EachOf.cons [10] rfl (by kernel_rfl) ?_ ?_
                · rintro L A W ⟨v, rfl, hR⟩ hi hw K hK
                  have e10 := hR.f10 (hw 10 (by simp))
                  simp only [e10]
                  clear e10
                  go_simp
                  refine hK.out _ _ ?_
                  exact ⟨(fun jz => if jz = 58 then .bool tt else if jz = 59 then .bool nt else v jz), rfl, ⟨hR.st, hR.w1.o, hR.w3.o, hR.w4.o, hR.w6.o, hR.w8.o, hR.w9.o, hR.w10.o, (fun _ j hj => upd_on (hw j hj)), hR.f0.k, hR.f1.k, hR.f2.k, hR.f3.k, hR.f4.k, hR.f5.k, hR.f6.k, hR.f7.k, hR.f8.k, hR.f9.k, (fun _ => rfl), (fun _ => rfl)⟩⟩
                exact EachOf.nil
              rintro L A W3 ⟨vs, rfl, hR⟩ hL
              have e11 := hR.f11 (hL 11 (by simp))
              simp only [e11]
              have S3 := Lib.hid (below_on S.out.1 hR.st)
              clear e11 hR hL L1 L2 P1 P2 P3 Q1 Q2 Q3 CX c9 S hnt
              cases tt
              · obtain rfl : v = false := HX.out.2 rfl
                obtain rfl : nt = true := HNT.out.symm
                clear HX HNT
                go_wp2_with fail
                go_ret
                exact ⟨rfl, below_on HB.out S3.out⟩
              · obtain rfl : nt = false := HNT.out.symm
                have T4 : Hid (Below w1.heap.size w1 W3 ∧ ∀ j, j < k + 1 → SameR (s.R j) (t.R j)) := ⟨S3.out, HX.out.1 rfl⟩
                clear HX HNT
                go_wp2_with fail
                go_roundg (nr - (k + 1))
                case measure => omega
                case rel => exact ⟨k + 1, rfl, rfl, by omega, T4⟩
            · have li : ¬ (k : Int) < (nr : Int) := by omega
              have e : nr = k := by omega
              subst e
              obtain rfl : v = true := HV5.out HBK.out S.out.2
              have hB4 := Lib.hid (below_on HB.out S.out.1)
              clear S
              go_wp2_with fail
              go_ret
              exact ⟨rfl, hB4.out⟩
    · obtain rfl : v = false := no_of hv (fun h => e2 h.2.1)
      have hne : ((s.nr : Int) == (t.nr : Int)) = false := by simp; omega
      have hne2 : ¬ (s.nr : Int) = (t.nr : Int) := by omega
      rw [← e1] at HC HD d0
      rw [← e1]
      clear hv e2 e1 hs ht hsm htm
      clear hx2 hx3 hw1 hB0 hC2 hC3 hB
      go_enter Tryd.func21, Tryd.ntmps21
      go_upto_region 1 with fail
      rw [← HD.out.2.2, ← HD.out.2.1, ← HD.out.1]
      clear HD
      go_wp2_with fail
      go_ret
      exact ⟨rfl, HB.out⟩
  · obtain rfl : v = false := no_of hv (fun h => e1 h.1.1)
    have hne : ((s.nb : Int) == (t.nb : Int)) = false := by simp; omega
    have hne2 : ¬ (s.nb : Int) = (t.nb : Int) := by omega
    clear hv e1 hs ht hsm htm
    clear hx2 hx3 hw1 hB0 hC2 hC3 hB
    go_enter Tryd.func21, Tryd.ntmps21
    go_upto_region 1 with fail
    rw [← HD.out.2.2, ← HD.out.2.1, ← HD.out.1]
    clear HD
    go_wp2_with fail
    go_ret
    exact ⟨rfl, HB.out⟩
end Go.Proofs.YtcghjjfpjiacfaaDoor
