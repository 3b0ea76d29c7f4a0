/- Layer 2: the reference's sum of a list of fractions. -/
import Derived.Test.YtfcplndfoboaaaaDoorRSumR
import Derived.Test.YtfcplndfoboaaaaDoorRRef14
import Derived.Test.YtfcplndfoboaaaaDoorRRef2
import Derived.Test.YtfcplndfoboaaaaDoorREach
namespace Go.Proofs.YtfcplndfoboaaaaDoor
set_option linter.unusedVariables false
open Go.RowKit Go.Shelf

structure RSum7R (w wr : World) (b o cp k cb : Nat) (l : List (Int × Int)) (n d a q nn dd er : Int) (u3 u6 u7 u13 u14 u15 u16 u17 u18 u19 u20 u21 u22 u23 u24 u25 u26 u27 u28 u29 u30 u31 u32 : Value) (Wc : World) (L : Nat → Bool) (v : Nat → Value) (g : Nat → Nat) (W : World) : Prop where
  st : Below Wc.heap.size Wc W
  f0 : Had L 0 (v 20 = .agg #[.int .i64 n, .int .i64 d])
  f1 : Had L 1 (v 21 = .slice (some ⟨b, o, none⟩) l.length cp)
  f2 : Had L 2 (v 22 = .int .i64 k)
  f3 : Had L 3 (v 23 = .pointer (some ⟨b, (o + k * 2), none⟩))
  f4 : Had L 4 (v 24 = .agg #[.int .i64 a, .int .i64 q])
  f5 : Had L 5 (v 25 = .tuple #[.agg #[.int .i64 nn, .int .i64 dd], .int .i64 er])
  f6 : Had L 6 (v 19 = .tuple #[.agg #[.int .i64 nn, .int .i64 dd], .int .i64 er])
  f7 : Had L 7 (v 26 = .agg #[.int .i64 nn, .int .i64 dd])
  f8 : Had L 8 (v 27 = .int .i64 er)
  f9 : Had L 9 (v 6 = .pointer (some ⟨g 9, 0, none⟩))
  f11 : Had L 11 (v 7 = .int .i64 er)
  b9 : Had L 9 (Own Wc.heap.size W (g 9))
  c10 : Had L 10 (L 9 = true ∧ Blk W (g 9) (.int .i64 nn) (.int .i64 dd))

set_option maxRecDepth 100000 in
set_option maxHeartbeats 16000000 in
theorem refSum_any (l : List (Int × Int)) (b o cp : Nat) (w : World) (hl : l.length ≤ 2000) (hb : b < w.heap.size) (hQ : Hid (Frs w b o l)) (HA : Hid (∀ x ∈ l, vB x.1 x.2 = true)) (x y z : Int) (h : (if 1000 < l.length then (0, 0, 4) else sumT l 0 1) = (x, y, z)) :
    Calls Tryd.prog 9 #[.slice (some ⟨b, o, none⟩) l.length cp] w fun r w' => r = .returned (.tuple #[.agg #[.int .i64 x, .int .i64 y], .int .i64 z]) ∧ Below w.heap.size w w' := by
  have HH := Lib.hid h
  clear h
  have CO := fun w => Lib.hid (refOf_any 0 w)
  by_cases hbig : 1000 < l.length
  · have H3 := HH.out
    rw [if_pos hbig] at H3
    obtain ⟨c1, c2, c3⟩ := three H3
    subst c1; subst c2; subst c3
    clear H3 HH
    go_enter Tryd.func9, Tryd.ntmps9
    go_wp2
    refine bodyPost_ret (by simp [results, Tryd.results9, go_sem]; try rfl) rfl ?_
    exact ⟨rfl, (by repeat' (first | (with_reducible exact Below.refl _ _) | (with_reducible assumption) | (with_reducible refine Below.alloc ?_ ?_ _) | (with_reducible refine below_drew ?_ _) | (with_reducible refine Below.drew ?_) | (with_reducible refine Below.setCell ?_ ?_ _) | go_size))⟩
  have H3 := HH.out
  rw [if_neg hbig] at H3
  have HS0 := Lib.hid H3
  clear H3 HH
  go_enter Tryd.func9, Tryd.ntmps9
  go_wp2_with fail
  (with_reducible refine ((CO _).out).mono ?_)
  rintro e y1 ⟨rfl, hb1⟩
  have K0 : Hid (Blk y1 w.heap.size (.int .i64 0) (.int .i64 0) ∧ Frz y1 w.heap.size ∧ Below w.heap.size w y1) :=
    ⟨(Blk.new w _ _ 24).on hb1, (Frz.new w (.int .i64 0) (.int .i64 0) 24).on (by simp) hb1, below_on (w := w) (by repeat' (first | (with_reducible exact Below.refl _ _) | (with_reducible assumption) | (with_reducible refine Below.alloc ?_ ?_ _) | (with_reducible refine below_drew ?_ _) | (with_reducible refine Below.drew ?_) | (with_reducible refine Below.setCell ?_ ?_ _) | go_size)) hb1⟩
  clear hb1 CO
  obtain ⟨cb, hcb⟩ : ∃ cb, cb = y1.heap.size := ⟨_, rfl⟩
  go_wp2_with fail
  have S0 : Hid (SuS2 w y1.heap.size (y1.alloc (Obj.cells #[Value.int IntKind.i64 0, Value.int IntKind.i64 1] 24)) 0 1) := by
    obtain ⟨p1, p2, p3⟩ := K0.out
    exact ⟨p1.alloc _, p2.alloc p1.1 _, Blk.new _ _ _ _, Frz.new _ _ _ _, p1.1, below_on p3 ((Below.refl _ _).alloc (Nat.le_refl _) _)⟩
  clear K0
  rw [← hcb] at *
  clear hcb
  go_loopg [5] l.length (fun g s5 wx => ∃ (k : Nat) (n d : Int), s5 = .int .i64 k ∧ g = l.length - k ∧ k ≤ l.length ∧ Hid (sumT (l.drop k) n d = (x, y, z)) ∧ Hid (Vld n d) ∧ Hid (SuS2 w cb wx n d))
  case atStart => exact ⟨0, 0, 1, rfl, rfl, Nat.zero_le _, HS0, ⟨by omega, by omega, by omega, by omega, by decide⟩, S0⟩
  case round =>
    clear S0 HS0
    rename World => wr
    obtain ⟨k, n, d, rfl, rfl, hk, R, V, S⟩ := hrel
    by_cases hlt : k < l.length
    · have hd := List.drop_eq_getElem_cons hlt
      obtain ⟨qa, qb⟩ := hQ.out k hlt
      have vx := vB_vld (HA.out l[k] (List.getElem_mem hlt))
      have R2 := R.out
      rw [hd] at R2
      unfold sumT at R2
      obtain ⟨nn, dd, er, ha⟩ : ∃ n1 d1 e1, addT n d l[k].1 l[k].2 = (n1, d1, e1) := ⟨_, _, _, rfl⟩
      rw [ha] at R2
      have CA := fun w => Lib.hid (refAdd_any n d _ _ w V.out vx nn dd er ha)
      have hc := addT_cases n d l[k].1 l[k].2
      rw [ha] at hc
      have HR2 := Lib.hid R2
      have HX := Lib.hid hc
      clear hd ha vx R R2 V hc
      generalize l[k].1 = a at *
      generalize l[k].2 = q at *
      have wk : IntKind.i64.wrap ((k : Int) + 1) = ((k + 1 : Nat) : Int) := by rw [IntWalk.i64_in _ (by omega)]; omega
      obtain ⟨HR, HRF, HC, HCF, hcw, HW⟩ := S.out
      have q0 := Lib.hid ((HW.cell (p := ⟨b, o + k * 2, none⟩) hb).trans qa)
      have q1 := Lib.hid ((HW.cell (p := ⟨b, o + k * 2 + 1, none⟩) hb).trans qb)
      have hbl : b < wr.heap.size := Nat.lt_of_lt_of_le hb HW.size
      have HR := Lib.hid HR; have HRF := Lib.hid HRF; have HC := Lib.hid HC; have HCF := Lib.hid HCF; have HW := Lib.hid HW; have HCW := Lib.hid hcw
      clear qa qb S hcw
      go_upto_region 7 with fail
      refine wp_region_each (fun L A W => ∃ (v : Nat → Value) (g : Nat → Nat), A = ⟨#[.slice (some ⟨b, o, none⟩) l.length cp, undef, .pointer (some ⟨w.heap.size, 0, none⟩), u3, .pointer (some ⟨cb, 0, none⟩), .int .i64 k, v 6, v 7, .slice (some ⟨b, o, none⟩) l.length cp, .int .i64 l.length, .bool (decide (1000 < (l.length : Int))), undef, .agg #[.int .i64 0, .int .i64 1], .int .i64 k, .slice (some ⟨b, o, none⟩) l.length cp, .int .i64 l.length, .bool true, u17, u18, v 19, v 20, v 21, v 22, v 23, v 24, v 25, v 26, v 27, u28, u29, u30, u31, u32, undef], []⟩ ∧ RSum7R w wr b o cp k cb l n d a q nn dd er u3 u6 u7 u13 u14 u15 u16 u17 u18 u19 u20 u21 u22 u23 u24 u25 u26 u27 u28 u29 u30 u31 u32 wr L v g W) (by kernel_rfl) (by kernel_rfl) ⟨fun jz => if jz = 20 then u20 else if jz = 21 then u21 else if jz = 22 then u22 else if jz = 23 then u23 else if jz = 24 then u24 else if jz = 25 then u25 else if jz = 19 then u19 else if jz = 26 then u26 else if jz = 27 then u27 else if jz = 6 then u6 else if jz = 7 then u7 else undef, fun _ => 0, rfl, ⟨Below.drew (Below.refl _ _), Had.none, Had.none, Had.none, Had.none, Had.none, Had.none, Had.none, Had.none, Had.none, Had.none, Had.none, Had.none, Had.none⟩⟩ (rs := [0, 1, 2, 3, 4, 5, 6, 7, 8, 9, 10, 11]) (by kernel_rfl) ?_ ?_
      · refine EachOf.cons [] rfl (by kernel_rfl) ?_ ?_
        · rintro L A W ⟨v, g, rfl, hR⟩ hi hw K hK
          obtain ⟨_, q0, q1⟩ := HC.out.on hR.st
          go_simp
          refine hK.out _ _ ?_
          exact ⟨(fun jz => if jz = 20 then .agg #[.int .i64 n, .int .i64 d] else v jz), g, rfl, ⟨hR.st, (fun _ => rfl), hR.f1.keep rfl, hR.f2.keep rfl, hR.f3.keep rfl, hR.f4.keep rfl, hR.f5.keep rfl, hR.f6.keep rfl, hR.f7.keep rfl, hR.f8.keep rfl, hR.f9.keep rfl, hR.f11.keep rfl, hR.b9.keep rfl, hR.c10.keepM rfl (fun h => ⟨upd_on h.1, h.2⟩)⟩⟩
        refine EachOf.cons [] rfl (by kernel_rfl) ?_ ?_
        · rintro L A W ⟨v, g, rfl, hR⟩ hi hw K hK
          go_simp
          refine hK.out _ _ ?_
          exact ⟨(fun jz => if jz = 21 then .slice (some ⟨b, o, none⟩) l.length cp else v jz), g, rfl, ⟨hR.st, hR.f0.keep rfl, (fun _ => rfl), hR.f2.keep rfl, hR.f3.keep rfl, hR.f4.keep rfl, hR.f5.keep rfl, hR.f6.keep rfl, hR.f7.keep rfl, hR.f8.keep rfl, hR.f9.keep rfl, hR.f11.keep rfl, hR.b9.keep rfl, hR.c10.keepM rfl (fun h => ⟨upd_on h.1, h.2⟩)⟩⟩
        refine EachOf.cons [] rfl (by kernel_rfl) ?_ ?_
        · rintro L A W ⟨v, g, rfl, hR⟩ hi hw K hK
          go_simp
          refine hK.out _ _ ?_
          exact ⟨(fun jz => if jz = 22 then .int .i64 k else v jz), g, rfl, ⟨hR.st, hR.f0.keep rfl, hR.f1.keep rfl, (fun _ => rfl), hR.f3.keep rfl, hR.f4.keep rfl, hR.f5.keep rfl, hR.f6.keep rfl, hR.f7.keep rfl, hR.f8.keep rfl, hR.f9.keep rfl, hR.f11.keep rfl, hR.b9.keep rfl, hR.c10.keepM rfl (fun h => ⟨upd_on h.1, h.2⟩)⟩⟩
        refine EachOf.cons [1, 2] rfl (by kernel_rfl) ?_ ?_
        · rintro L A W ⟨v, g, rfl, hR⟩ hi hw K hK
          have e1 := hR.f1 (hw 1 (by simp))
          have e2 := hR.f2 (hw 2 (by simp))
          simp only [e1, e2]
          clear e1 e2
          go_simp
          refine hK.out _ _ ?_
          exact ⟨(fun jz => if jz = 21 then .slice (some ⟨b, o, none⟩) l.length cp else if jz = 22 then .int .i64 k else if jz = 23 then .pointer (some ⟨b, (o + k * 2), none⟩) else v jz), g, rfl, ⟨hR.st, hR.f0.keep rfl, (fun _ => rfl), (fun _ => rfl), (fun _ => rfl), hR.f4.keep rfl, hR.f5.keep rfl, hR.f6.keep rfl, hR.f7.keep rfl, hR.f8.keep rfl, hR.f9.keep rfl, hR.f11.keep rfl, hR.b9.keep rfl, hR.c10.keepM rfl (fun h => ⟨upd_on h.1, h.2⟩)⟩⟩
        refine EachOf.cons [3] rfl (by kernel_rfl) ?_ ?_
        · rintro L A W ⟨v, g, rfl, hR⟩ hi hw K hK
          have e3 := hR.f3 (hw 3 (by simp))
          simp only [e3]
          clear e3
          have t0 := (hR.st.cell (p := ⟨b, o + k * 2, none⟩) hbl).trans q0.out
          have t1 := (hR.st.cell (p := ⟨b, o + k * 2 + 1, none⟩) hbl).trans q1.out
          go_simp
          refine hK.out _ _ ?_
          exact ⟨(fun jz => if jz = 23 then .pointer (some ⟨b, (o + k * 2), none⟩) else if jz = 24 then .agg #[.int .i64 a, .int .i64 q] else v jz), g, rfl, ⟨hR.st, hR.f0.keep rfl, hR.f1.keep rfl, hR.f2.keep rfl, (fun _ => rfl), (fun _ => rfl), hR.f5.keep rfl, hR.f6.keep rfl, hR.f7.keep rfl, hR.f8.keep rfl, hR.f9.keep rfl, hR.f11.keep rfl, hR.b9.keep rfl, hR.c10.keepM rfl (fun h => ⟨upd_on h.1, h.2⟩)⟩⟩
        refine EachOf.cons [0, 4] rfl (by kernel_rfl) ?_ ?_
        · rintro L A W ⟨v, g, rfl, hR⟩ hi hw K hK
          have e0 := hR.f0 (hw 0 (by simp))
          have e4 := hR.f4 (hw 4 (by simp))
          simp only [e0, e4]
          clear e0 e4
          go_simp
          go_at_call 23
          (with_reducible refine ((CA _).out).mono ?_)
          rintro e w2 ⟨rfl, hb⟩
          go_simp
          refine hK.out _ _ ?_
          exact ⟨(fun jz => if jz = 20 then .agg #[.int .i64 n, .int .i64 d] else if jz = 24 then .agg #[.int .i64 a, .int .i64 q] else if jz = 25 then .tuple #[.agg #[.int .i64 nn, .int .i64 dd], .int .i64 er] else v jz), g, rfl, ⟨below_on hR.st hb, (fun _ => rfl), hR.f1.keep rfl, hR.f2.keep rfl, hR.f3.keep rfl, (fun _ => rfl), (fun _ => rfl), hR.f6.keep rfl, hR.f7.keep rfl, hR.f8.keep rfl, hR.f9.keep rfl, hR.f11.keep rfl, hR.b9.keepM rfl (fun h => h.on hb), hR.c10.keepM rfl (fun h => ⟨upd_on h.1, h.2.on hb⟩)⟩⟩
        refine EachOf.cons [5] rfl (by kernel_rfl) ?_ ?_
        · rintro L A W ⟨v, g, rfl, hR⟩ hi hw K hK
          have e5 := hR.f5 (hw 5 (by simp))
          simp only [e5]
          clear e5
          go_simp
          refine hK.out _ _ ?_
          exact ⟨(fun jz => if jz = 25 then .tuple #[.agg #[.int .i64 nn, .int .i64 dd], .int .i64 er] else if jz = 19 then .tuple #[.agg #[.int .i64 nn, .int .i64 dd], .int .i64 er] else v jz), g, rfl, ⟨hR.st, hR.f0.keep rfl, hR.f1.keep rfl, hR.f2.keep rfl, hR.f3.keep rfl, hR.f4.keep rfl, (fun _ => rfl), (fun _ => rfl), hR.f7.keep rfl, hR.f8.keep rfl, hR.f9.keep rfl, hR.f11.keep rfl, hR.b9.keep rfl, hR.c10.keepM rfl (fun h => ⟨upd_on h.1, h.2⟩)⟩⟩
        refine EachOf.cons [6] rfl (by kernel_rfl) ?_ ?_
        · rintro L A W ⟨v, g, rfl, hR⟩ hi hw K hK
          have e6 := hR.f6 (hw 6 (by simp))
          simp only [e6]
          clear e6
          go_simp
          refine hK.out _ _ ?_
          exact ⟨(fun jz => if jz = 19 then .tuple #[.agg #[.int .i64 nn, .int .i64 dd], .int .i64 er] else if jz = 26 then .agg #[.int .i64 nn, .int .i64 dd] else v jz), g, rfl, ⟨hR.st, hR.f0.keep rfl, hR.f1.keep rfl, hR.f2.keep rfl, hR.f3.keep rfl, hR.f4.keep rfl, hR.f5.keep rfl, (fun _ => rfl), (fun _ => rfl), hR.f8.keep rfl, hR.f9.keep rfl, hR.f11.keep rfl, hR.b9.keep rfl, hR.c10.keepM rfl (fun h => ⟨upd_on h.1, h.2⟩)⟩⟩
        refine EachOf.cons [6] rfl (by kernel_rfl) ?_ ?_
        · rintro L A W ⟨v, g, rfl, hR⟩ hi hw K hK
          have e6 := hR.f6 (hw 6 (by simp))
          simp only [e6]
          clear e6
          go_simp
          refine hK.out _ _ ?_
          exact ⟨(fun jz => if jz = 19 then .tuple #[.agg #[.int .i64 nn, .int .i64 dd], .int .i64 er] else if jz = 27 then .int .i64 er else v jz), g, rfl, ⟨hR.st, hR.f0.keep rfl, hR.f1.keep rfl, hR.f2.keep rfl, hR.f3.keep rfl, hR.f4.keep rfl, hR.f5.keep rfl, (fun _ => rfl), hR.f7.keep rfl, (fun _ => rfl), hR.f9.keep rfl, hR.f11.keep rfl, hR.b9.keep rfl, hR.c10.keepM rfl (fun h => ⟨upd_on h.1, h.2⟩)⟩⟩
        refine EachOf.cons [] rfl (by kernel_rfl) ?_ ?_
        · rintro L A W ⟨v, g, rfl, hR⟩ hi hw K hK
          have hz := hR.st.size
          go_simp
          refine hK.out _ _ ?_
          have hb : Below W.heap.size W (W.alloc (Obj.cells #[Value.int IntKind.i64 0, Value.int IntKind.i64 0] 24)) := (Below.refl _ _).alloc (Nat.le_refl _) _
          exact ⟨(fun jz => if jz = 6 then .pointer (some ⟨W.heap.size, 0, none⟩) else v jz), (fun jz => if jz = 9 then W.heap.size else g jz), rfl, ⟨below_on hR.st hb, hR.f0.keep rfl, hR.f1.keep rfl, hR.f2.keep rfl, hR.f3.keep rfl, hR.f4.keep rfl, hR.f5.keep rfl, hR.f6.keep rfl, hR.f7.keep rfl, hR.f8.keep rfl, (fun _ => rfl), hR.f11.keep rfl, (fun _ => Own.new _ _ _ _ hz), (fun h => absurd ((hR.c10 (upd_back h rfl)).1) (by simp [hi]))⟩⟩
        refine EachOf.cons [9, 7] rfl (by kernel_rfl) ?_ ?_
        · rintro L A W ⟨v, g, rfl, hR⟩ hi hw K hK
          have e9 := hR.f9 (hw 9 (by simp))
          have e7 := hR.f7 (hw 7 (by simp))
          simp only [e9, e7]
          clear e9 e7
          have o2 := hR.b9 (hw 9 (by simp))
          have o1 := o2.1
          have HO := Lib.hid o2
          clear o2
          obtain ⟨_, ⟨u5, v5, l5, p5, q5⟩, r5, s5⟩ := HO.out
          go_simp
          have o2 := HO.out
          refine hK.out _ _ ?_
          exact ⟨(fun jz => if jz = 6 then .pointer (some ⟨g 9, 0, none⟩) else if jz = 26 then .agg #[.int .i64 nn, .int .i64 dd] else v jz), g, rfl, ⟨(hR.st.setCell (by simpa using o1) _).setCell (by simpa using o1) _, hR.f0.keep rfl, hR.f1.keep rfl, hR.f2.keep rfl, hR.f3.keep rfl, hR.f4.keep rfl, hR.f5.keep rfl, hR.f6.keep rfl, (fun _ => rfl), hR.f8.keep rfl, (fun _ => rfl), hR.f11.keep rfl, hR.b9.keepM rfl (fun h => h.set), (fun _ => ⟨upd_on (hw 9 (by simp)), o2.setw⟩)⟩⟩
        refine EachOf.cons [8] rfl (by kernel_rfl) ?_ ?_
        · rintro L A W ⟨v, g, rfl, hR⟩ hi hw K hK
          have e8 := hR.f8 (hw 8 (by simp))
          simp only [e8]
          clear e8
          go_simp
          refine hK.out _ _ ?_
          exact ⟨(fun jz => if jz = 27 then .int .i64 er else if jz = 7 then .int .i64 er else v jz), g, rfl, ⟨hR.st, hR.f0.keep rfl, hR.f1.keep rfl, hR.f2.keep rfl, hR.f3.keep rfl, hR.f4.keep rfl, hR.f5.keep rfl, hR.f6.keep rfl, hR.f7.keep rfl, (fun _ => rfl), hR.f9.keep rfl, (fun _ => rfl), hR.b9.keep rfl, hR.c10.keepM rfl (fun h => ⟨upd_on h.1, h.2⟩)⟩⟩
        exact EachOf.nil
      rintro L A W1 ⟨v1, g1, rfl, hR⟩ hL
      have e9 := hR.f9 (hL 9 (by simp))
      have e11 := hR.f11 (hL 11 (by simp))
      have hst := Lib.hid hR.st
      simp only [e9, e11]
      clear e9 e11
      have HS := Lib.hid (hR.c10 (hL 10 (by simp))).2
      have HSF := Lib.hid (hR.b9 (hL 9 (by simp))).2.2
      have HSN := Lib.hid (hR.b9 (hL 9 (by simp))).1
      clear hR hL
      generalize g1 9 = gs at *
      replace HRF := Lib.hid (HRF.out.on HR.out.1 hst.out)
      replace HCF := Lib.hid (HCF.out.on HC.out.1 hst.out)
      replace HR := Lib.hid (HR.out.on hst.out)
      replace HC := Lib.hid (HC.out.on hst.out)
      replace HW := Lib.hid (below_on HW.out hst.out)
      clear hst CA q0 q1
      have S1 : Hid (SuS2 w cb W1 n d) := ⟨HR.out, HRF.out, HC.out, HCF.out, HCW.out, HW.out⟩
      rcases HX.out with ⟨n2, d2, hc1, _, _, vn, _⟩ | ⟨e2, hc1, ne, _⟩
      · obtain ⟨c1, c2, c3⟩ := three hc1
        subst c1; subst c2; subst c3
        have R3 := HR2.out
        rw [if_pos rfl] at R3
        have HR3 := Lib.hid R3
        have VN := Lib.hid vn
        clear HR2 R3 vn hc1 HX
        obtain ⟨_, s0, s1⟩ := HS.out
        obtain ⟨_, s2, s3⟩ := HC.out
        obtain ⟨f2, f3⟩ := HCF.out
        go_wp2_with fail
        go_roundg (l.length - (k + 1))
        case measure => omega
        case rel => exact ⟨k + 1, _, _, rfl, rfl, by omega, HR3, VN, Lib.hid (S1.out.set _ _)⟩
      · obtain ⟨c1, c2, c3⟩ := three hc1
        subst c1; subst c2; subst c3
        have R3 := HR2.out
        rw [if_neg ne] at R3
        obtain ⟨c1, c2, c3⟩ := three R3
        subst c1; subst c2; subst c3
        have g1 : (er == 0) = false := by simpa using ne
        have g2 : (er != 0) = true := by simpa using ne
        clear HR2 R3 hc1 ne HX
        obtain ⟨⟨_, r0, r1⟩, ⟨f0, f1⟩, _, _, _, B⟩ := S1.out
        have HB := Lib.hid B
        clear B
        go_wp2_with fail
        obtain ⟨_, r8, r9⟩ := Blk.set (x := .int .i64 0) (y := .int .i64 0) S1.out.1
        refine bodyPost_ret (by simp [results, Tryd.results9, go_sem, r8, r9]; try rfl) rfl ?_
        have B := HB.out
        exact ⟨rfl, (by repeat' (first | (with_reducible exact Below.refl _ _) | (with_reducible assumption) | (with_reducible refine Below.alloc ?_ ?_ _) | (with_reducible refine below_drew ?_ _) | (with_reducible refine Below.drew ?_) | (with_reducible refine Below.setCell ?_ ?_ _) | go_size))⟩
    · have hk2 : k = l.length := by omega
      subst hk2
      have R2 := R.out
      rw [List.drop_length] at R2
      obtain ⟨c1, c2, c3⟩ := three (show (n, d, 0) = (x, y, z) from R2)
      subst c1; subst c2; subst c3
      obtain ⟨⟨_, r0, r1⟩, ⟨f0, f1⟩, ⟨_, s0, s1⟩, _, _, B⟩ := S.out
      have HB := Lib.hid B
      clear R R2 B
      go_wp2_with fail
      obtain ⟨_, r8, r9⟩ := Blk.set (x := .int .i64 n) (y := .int .i64 d) S.out.1
      refine bodyPost_ret (by simp [results, Tryd.results9, go_sem, r8, r9]; try rfl) rfl ?_
      have B := HB.out
      exact ⟨rfl, (by repeat' (first | (with_reducible exact Below.refl _ _) | (with_reducible assumption) | (with_reducible refine Below.alloc ?_ ?_ _) | (with_reducible refine below_drew ?_ _) | (with_reducible refine Below.drew ?_) | (with_reducible refine Below.setCell ?_ ?_ _) | go_size))⟩

end Go.Proofs.YtfcplndfoboaaaaDoor
