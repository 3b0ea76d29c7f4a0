/- Layer 10's reference: small systems. -/
import Derived.Test.YtcghjjfpjiacfaaDoorKR4
namespace Go.Proofs.YtcghjjfpjiacfaaDoor
open Go.ChangeShapes Go.WideShapes Go.ChangeAt Go.RowKit Go.Joins Go.Deep Go.Shelf
set_option linter.unusedVariables false

structure RpSm (r : Rop) : Prop where
  n : r.name.size ≤ 60
  h : r.n ≤ 13
  b : ∀ i, i < r.n → (r.hs i).blk.size ≤ 60
theorem sysSm_ref (s : Sys) : SysSm s ↔ (s.nb ≤ 9 ∧ s.nr ≤ 9) ∧ (∀ i, i < s.nb → (s.bn i).size ≤ 60) ∧ (∀ k, k < s.nr → RpSm (s.R k)) :=
  ⟨fun h => ⟨⟨h.b, h.r⟩, h.bn, fun k hk => ⟨h.rn k hk, h.h k hk, h.hn k hk⟩⟩, fun h => ⟨h.1.1, h.1.2, fun k hk => (h.2.2 k hk).h, h.2.1, fun k hk => (h.2.2 k hk).n, fun k hk => (h.2.2 k hk).b⟩⟩
set_option maxRecDepth 100000 in
set_option maxHeartbeats 16000000 in
theorem rSmall_any (s : Sys) (w : World) (hs : s.At w) (v : Bool) (hv : v = true ↔ SysSm s) :
    Calls Tryd.prog 17 #[.agg #[.slice s.ba s.nb s.bc, .slice s.ra s.nr s.rc]] w fun e w' => e = .returned (.bool v) ∧ Below w.heap.size w w' := by
  rw [sysSm_ref] at hv
  obtain ⟨w1, hw1⟩ : ∃ W, W = w.alloc (Obj.cells #[Value.slice s.ba s.nb s.bc, .slice s.ra s.nr s.rc] 36) := ⟨_, rfl⟩
  obtain ⟨xb, hxb⟩ : ∃ x, x = w.heap.size := ⟨_, rfl⟩
  have hC : C2 w1 xb (.slice s.ba s.nb s.bc) (.slice s.ra s.nr s.rc) := by rw [hw1, hxb]; exact C2.new _ _ _ _
  have hB : Below w.heap.size w w1 := by rw [hw1]; exact (Below.refl _ _).alloc (Nat.le_refl _) _
  have HB := Lib.hid hB
  have c0 := hC.c0
  have c1 := hC.c1
  have HS := Lib.hid (hs.on hB)
  have HV := Lib.hid hv
  have no : ¬ (s.nb ≤ 9 ∧ s.nr ≤ 9) → v = false := fun h => by
    cases e : v
    · rfl
    · exact absurd (HV.out.1 e).1 h
  have HN := Lib.hid no
  clear hs hB hv no hC
  by_cases h1 : s.nb ≤ 9
  · have g1 : ¬ 9 < (s.nb : Int) := by omega
    by_cases h2 : s.nr ≤ 9
    · have g2 : ¬ 9 < (s.nr : Int) := by omega
      have HV2 : Hid (v = true ↔ (∀ i, i < s.nb → (s.bn i).size ≤ 60) ∧ (∀ k, k < s.nr → RpSm (s.R k))) := ⟨fun h => (HV.out.1 h).2, fun h => HV.out.2 ⟨⟨h1, h2⟩, h⟩⟩
      have S0 : Hid (∀ j, j < 0 → (s.bn j).size ≤ 60) := fun j hj => by omega
      have HLB := Lib.hid HS.out.b
      have HLR := Lib.hid HS.out.r
      obtain ⟨nb, hnb⟩ : ∃ x, s.nb = x := ⟨_, rfl⟩
      obtain ⟨nr, hnr⟩ : ∃ x, s.nr = x := ⟨_, rfl⟩
      obtain ⟨ba, hba⟩ : ∃ x, s.ba = x := ⟨_, rfl⟩
      obtain ⟨ra, hra⟩ : ∃ x, s.ra = x := ⟨_, rfl⟩
      rw [hnb] at c0 hw1 g1 HV2 HLB h1
      rw [hnr] at c1 hw1 g2 HV2 HLR h2
      rw [hba] at c0 hw1 HLB
      rw [hra] at c1 hw1 HLR
      rw [hnb, hnr, hba, hra]
      clear hnb hnr hba hra HV HN HS
      go_enter Tryd.func17, Tryd.ntmps17
      go_upto_region 1 with fail
      rw [← hxb, ← hw1]
      clear hxb hw1
      go_wp2_with fail
      clear g1 g2
      go_loopg [3] nb (fun mm s3 wx => ∃ i : Nat, s3 = .int .i64 (i : Int) ∧ mm = nb - i ∧ i ≤ nb ∧ wx = w1 ∧ Hid (∀ j, j < i → (s.bn j).size ≤ 60))
      case atStart => exact ⟨0, rfl, rfl, Nat.zero_le _, rfl, S0⟩
      case round =>
        clear S0
        obtain ⟨i, rfl, rfl, hi, rfl, S⟩ := hrel
        by_cases hlt : i < nb
        · have li : (i : Int) < (nb : Int) := by omega
          have wi : IntKind.i64.wrap ((i : Int) + 1) = ((i + 1 : Nat) : Int) := by rw [IntWalk.i64_in _ (by omega)]; omega
          obtain ⟨b, o, rfl, hbk, hck⟩ := HLB.out (by omega)
          have p1 := (hck i hlt).1
          clear hbk hck
          by_cases q : (s.bn i).size ≤ 60
          · have q1 : ¬ 60 < ((s.bn i).size : Int) := by omega
            have S2 : Hid (∀ j, j < i + 1 → (s.bn j).size ≤ 60) := fun j hj => by
              by_cases e : j = i
              · rw [e]; exact q
              · exact S.out j (by omega)
            clear q
            go_wp2_with fail
            go_roundg (nb - (i + 1))
            case measure => omega
            case rel => exact ⟨i + 1, rfl, rfl, by omega, rfl, S2⟩
          · have q1 : 60 < ((s.bn i).size : Int) := by omega
            obtain rfl : v = false := by
              cases e : v
              · rfl
              · exact absurd ((HV2.out.1 e).1 i hlt) q
            clear HV2 q
            go_wp2_with fail
            go_ret
            exact ⟨rfl, HB.out⟩
        · have li : ¬ (i : Int) < (nb : Int) := by omega
          have e : nb = i := by omega
          subst e
          have T0 : Hid (∀ j, j < 0 → RpSm (s.R j)) := fun j hj => by omega
          have HB6 := Lib.hid S.out
          clear S li hi hlt
          go_wp2_with fail
          go_loopg [4] nr (fun mm s4 wx => ∃ k : Nat, s4 = .int .i64 (k : Int) ∧ mm = nr - k ∧ k ≤ nr ∧ wx = wr ∧ Hid (∀ j, j < k → RpSm (s.R j)))
          case atStart => exact ⟨0, rfl, rfl, Nat.zero_le _, rfl, T0⟩
          case round =>
            clear T0
            obtain ⟨k, rfl, rfl, hk, rfl, S⟩ := hrel
            by_cases hlt : k < nr
            · have li : (k : Int) < (nr : Int) := by omega
              have wi : IntKind.i64.wrap ((k : Int) + 1) = ((k + 1 : Nat) : Int) := by rw [IntWalk.i64_in _ (by omega)]; omega
              obtain ⟨b, o, rfl, hbk, hck⟩ := HLR.out.l (by omega)
              have p1 := (hck k hlt).1
              have p2 := (hck k hlt).2.1
              have HH := Lib.hid (HLR.out.h k hlt)
              have hno : ¬ RpSm (s.R k) → v = false := fun h => by
                cases e : v
                · rfl
                · exact absurd ((HV2.out.1 e).2 k hlt) h
              clear hbk hck
              by_cases q : (s.R k).name.size ≤ 60
              · have q1 : ¬ 60 < ((s.R k).name.size : Int) := by omega
                by_cases q2 : (s.R k).n ≤ 13
                · have q3 : ¬ 13 < ((s.R k).n : Int) := by omega
                  have U0 : Hid (∀ j, j < 0 → ((s.R k).hs j).blk.size ≤ 60) := fun j hj => by omega
                  have HY : Hid ((¬ (∀ j, j < (s.R k).n → ((s.R k).hs j).blk.size ≤ 60) → v = false) ∧ ((∀ j, j < (s.R k).n → ((s.R k).hs j).blk.size ≤ 60) → ∀ j, j < k + 1 → RpSm (s.R j))) := ⟨fun h => hno fun g => h g.b, fun h j hj => by
                    by_cases e : j = k
                    · rw [e]; exact ⟨q, q2, h⟩
                    · exact S.out j (by omega)⟩
                  obtain ⟨n, hn⟩ : ∃ x, (s.R k).n = x := ⟨_, rfl⟩
                  obtain ⟨ha, hha⟩ : ∃ x, (s.R k).ha = x := ⟨_, rfl⟩
                  rw [hn] at p2 HH HY q2 q3
                  rw [hha] at p2 HH
                  have HN := Lib.hid (And.intro hn hha)
                  clear hno hn hha S
                  go_wp2_with fail
                  clear q1 q3
                  go_loopg [5] n (fun mm s5 wx => ∃ i : Nat, s5 = .int .i64 (i : Int) ∧ mm = n - i ∧ i ≤ n ∧ wx = wr ∧ Hid (∀ j, j < i → ((s.R k).hs j).blk.size ≤ 60))
                  case atStart => exact ⟨0, rfl, rfl, Nat.zero_le _, rfl, U0⟩
                  case round =>
                    clear U0
                    obtain ⟨i, rfl, rfl, hi, rfl, S⟩ := hrel
                    by_cases hli : i < n
                    · have lj : (i : Int) < (n : Int) := by omega
                      have wj : IntKind.i64.wrap ((i : Int) + 1) = ((i + 1 : Nat) : Int) := by rw [IntWalk.i64_in _ (by omega)]; omega
                      obtain ⟨hb, ho, rfl, hhb, hhc⟩ := HH.out (by omega)
                      have p3 := (hhc i hli).1
                      clear hhb hhc
                      by_cases q : ((s.R k).hs i).blk.size ≤ 60
                      · have q1 : ¬ 60 < (((s.R k).hs i).blk.size : Int) := by omega
                        have S2 : Hid (∀ j, j < i + 1 → ((s.R k).hs j).blk.size ≤ 60) := fun j hj => by
                          by_cases e : j = i
                          · rw [e]; exact q
                          · exact S.out j (by omega)
                        clear q
                        go_wp2_with fail
                        go_roundg (n - (i + 1))
                        case measure => omega
                        case rel => exact ⟨i + 1, rfl, rfl, by omega, rfl, S2⟩
                      · have q1 : 60 < (((s.R k).hs i).blk.size : Int) := by omega
                        obtain rfl : v = false := HY.out.1 (fun h => q (h i hli))
                        clear HV2 HY q
                        go_wp2_with fail
                        go_ret
                        exact ⟨rfl, HB.out⟩
                    · have lj : ¬ (i : Int) < (n : Int) := by omega
                      have e : n = i := by omega
                      subst e
                      have S2 := Lib.hid (HY.out.2 S.out)
                      clear HY S
                      go_wp2_with fail
                      go_roundg (nr - (k + 1))
                      case measure => omega
                      case rel => exact ⟨k + 1, rfl, rfl, by omega, rfl, S2⟩
                · have q3 : 13 < ((s.R k).n : Int) := by omega
                  obtain rfl : v = false := hno (fun g => q2 g.h)
                  clear HV2 hno q q2
                  go_wp2_with fail
                  go_ret
                  exact ⟨rfl, HB.out⟩
              · have q1 : 60 < ((s.R k).name.size : Int) := by omega
                obtain rfl : v = false := hno (fun g => q g.n)
                clear HV2 hno q
                go_wp2_with fail
                go_ret
                exact ⟨rfl, HB.out⟩
            · have li : ¬ (k : Int) < (nr : Int) := by omega
              have e : nr = k := by omega
              subst e
              obtain rfl : v = true := HV2.out.2 ⟨HB6.out, S.out⟩
              clear HV2 S HB6
              go_wp2_with fail
              go_ret
              exact ⟨rfl, HB.out⟩
    · have g2 : 9 < (s.nr : Int) := by omega
      obtain rfl : v = false := HN.out (by omega)
      clear HV HN
      go_enter Tryd.func17, Tryd.ntmps17
      go_upto_region 1 with fail
      rw [← hxb, ← hw1]
      clear hxb hw1
      go_wp2_with fail
      go_ret
      exact ⟨rfl, HB.out⟩
  · have g1 : 9 < (s.nb : Int) := by omega
    obtain rfl : v = false := HN.out (by omega)
    clear HV HN
    go_enter Tryd.func17, Tryd.ntmps17
    go_upto_region 1 with fail
    rw [← hxb, ← hw1]
    clear hxb hw1
    go_wp2_with fail
    go_ret
    exact ⟨rfl, HB.out⟩
end Go.Proofs.YtcghjjfpjiacfaaDoor
