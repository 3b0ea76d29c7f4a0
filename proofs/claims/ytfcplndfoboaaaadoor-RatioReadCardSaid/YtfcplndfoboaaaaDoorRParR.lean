/- Layer 2: the reference's Parse. -/
import Derived.Test.YtfcplndfoboaaaaDoorRParM
import Derived.Test.YtfcplndfoboaaaaDoorRRef9
import Derived.Test.YtfcplndfoboaaaaDoorRLawStore
import Derived.Test.YtfcplndfoboaaaaDoorRRef3
namespace Go.Proofs.YtfcplndfoboaaaaDoor
set_option linter.unusedVariables false
open Go.RowKit Go.Shelf

def parR (s : List UInt8) : Int × Int × Bool := match parP s with | some (n, d) => (n, d, true) | none => (0, 0, false)
def PrS (w W : World) : Prop := Blk W w.heap.size (.int .i64 0) (.int .i64 0) ∧ Frz W w.heap.size ∧ Below w.heap.size w W
theorem PrS.on {w W W2 : World} (h : PrS w W) (hb : Below W.heap.size W W2) : PrS w W2 := ⟨h.1.on hb, h.2.1.on h.1.1 hb, below_on h.2.2 hb⟩
theorem PrS.new (w : World) : PrS w (w.alloc (Obj.cells #[Value.int IntKind.i64 0, Value.int IntKind.i64 0] 24)) :=
  ⟨Blk.new _ _ _ _, Frz.new _ _ _ _, (Below.refl _ _).alloc (Nat.le_refl _) _⟩
def PrA (w W : World) (c : Nat) (n d : Int) : Prop := PrS w W ∧ Blk W c (.int .i64 n) (.int .i64 d) ∧ Frz W c ∧ w.heap.size < c
theorem PrA.on {w W W2 : World} {c : Nat} {n d : Int} (h : PrA w W c n d) (hb : Below W.heap.size W W2) : PrA w W2 c n d := ⟨h.1.on hb, h.2.1.on hb, h.2.2.1.on h.2.1.1 hb, h.2.2.2⟩
theorem PrA.new {w W : World} (h : PrS w W) (n d : Int) : PrA w (W.alloc (Obj.cells #[Value.int IntKind.i64 n, Value.int IntKind.i64 d] 24)) W.heap.size n d :=
  ⟨h.on ((Below.refl _ _).alloc (Nat.le_refl _) _), Blk.new _ _ _ _, Frz.new _ _ _ _, h.1.1⟩
theorem PrA.set1 {w W : World} {c : Nat} {n d : Int} (h : PrA w W c n d) (x : Int) : PrA w (W.setCell ⟨c, 1, none⟩ (.int .i64 x)) c n x := by
  obtain ⟨⟨a1, a2, a3⟩, b, f, l⟩ := h
  exact ⟨⟨a1.far1 (by omega), a2.set1, a3.setCell (by simp; omega) _⟩, b.set1, f.set1, l⟩
theorem Blk.set0 {W : World} {b : Nat} {v0 v1 y : Value} (h : Blk W b v0 v1) : Blk (W.setCell ⟨b, 0, none⟩ y) b y v1 :=
  ⟨by simpa using h.1, World.cell?_setCell_same' _ _ _ (by rw [h.2.1]; rfl), by rw [World.cell?_setCell_other _ _ _ _ (by simp)]; exact h.2.2⟩
theorem PrA.set0 {w W : World} {c : Nat} {n d : Int} (h : PrA w W c n d) (x : Int) : PrA w (W.setCell ⟨c, 0, none⟩ (.int .i64 x)) c x d := by
  obtain ⟨⟨a1, a2, a3⟩, b, f, l⟩ := h
  exact ⟨⟨a1.far1 (by omega), a2.set1, a3.setCell (by simp; omega) _⟩, b.set0, f.set1, l⟩
theorem take_ext (T : ByteArray) (k : Nat) : (T.extract 0 k).data.toList = T.data.toList.take k := by rw [Lib.extract_data]; simp

theorem numT_range {l : List UInt8} {v : Int} {ok : Bool} (h : numT l = (v, ok)) : 0 ≤ v ∧ v ≤ 9223372036854775807 := by
  unfold numT at h
  split at h
  · injection h with e1 e2; omega
  · split at h
    · injection h with e1 e2; omega
    · injection h with e1 e2; omega
theorem slash_byte (T : ByteArray) (k : Nat) (h : k < T.size) : (k < slashAt T.data.toList → T[k].toNat ≠ 47) ∧ (k = slashAt T.data.toList → T[k].toNat = 47) := by
  have e : T.data.toList[k]? = some T[k] := by
    rw [List.getElem?_eq_getElem (by simpa using h)]
    rfl
  refine ⟨fun g q => slash_before _ k g _ e ?_, fun g => ?_⟩
  · exact UInt8.toNat_inj.1 q
  · subst g
    have := slash_at _ _ e
    rw [this]; rfl
theorem threeB {a b x y : Int} {c z : Bool} (h : (a, b, c) = (x, y, z)) : a = x ∧ b = y ∧ c = z := by
  injection h with h1 h2; injection h2 with h2 h3; exact ⟨h1, h2, h3⟩
theorem ba_eq {l : List UInt8} {s : ByteArray} (h : l = s.data.toList) : (⟨l.toArray⟩ : ByteArray) = s := by rw [h]

set_option maxRecDepth 100000 in
set_option maxHeartbeats 8000000 in
theorem refParse_neg (s : ByteArray) (hs : s.size ≤ 200) (T : ByteArray) (hT : s.extract 1 s.size = T) (h0 : 0 < s.size) (c0 : s[0].toNat = 45) (z : Nat) (hz : slashAt T.data.toList = z) (v1 : Int) (o1 : Bool) (h1 : numT (T.data.toList.take z) = (v1, o1)) (v2 : Int) (o2 : Bool) (h2 : (if z < T.size then numT (T.data.toList.drop (z + 1)) else (1, true)) = (v2, o2)) (sg : Int) (hsg : sg = -v1) (x y : Int) (ok : Bool) (h : (if o1 = true ∧ o2 = true ∧ vB sg v2 = true ∧ txt sg v2 = s.data.toList then (sg, v2, true) else ((0 : Int), (0 : Int), false)) = (x, y, ok)) (w : World) :
    Calls Tryd.prog 14 #[.string s] w fun e w' => e = .returned (.tuple #[.agg #[.int .i64 x, .int .i64 y], .bool ok]) ∧ Below w.heap.size w w' := by
  have b1 := numT_range h1
  have zl := slash_le T.data.toList
  rw [hz, show T.data.toList.length = T.size by simp] at zl
  have HTS : Hid (T.size = s.size - 1) := by show _ = _; rw [← hT]; simp
  have tl : T.size ≤ 200 := by have := HTS.out; omega
  have N1 := fun w => Lib.hid (refNumber_any (T.extract 0 z) w v1 o1 (by rw [take_ext]; exact h1))
  have HZ := Lib.hid hz
  have H2 := Lib.hid h2
  have HH := Lib.hid h
  have HS := Lib.hid hsg
  clear hsg
  clear hz h1 h2 h
  have c1 : ((s[0].toNat : Int) == 45) = true := by rw [c0]; rfl
  have HT := Lib.hid hT
  clear hT
  go_enter Tryd.func14, Tryd.ntmps14
  go_wp2_with fail
  rw [HT.out]
  have S0 := Lib.hid (PrS.new w)
  go_loopg [6, 7] T.size (fun g s6 s7 wx => ∃ (k : Nat), s7 = .int .i64 k ∧ s6 = .int .i64 ((if z < k then z else T.size : Nat) : Int) ∧ g = T.size - k ∧ k ≤ T.size ∧ Hid (PrS w wx))
  case atStart => exact ⟨0, rfl, by rw [if_neg (by omega)]; rw [HTS.out], rfl, Nat.zero_le _, S0⟩
  case round =>
    clear S0
    obtain ⟨k, rfl, rfl, rfl, hk, S⟩ := hrel
    by_cases hlt : k < T.size
    · have wk : IntKind.i64.wrap ((k : Int) + 1) = ((k + 1 : Nat) : Int) := by rw [IntWalk.i64_in _ (by omega)]; omega
      have hb := slash_byte T k hlt
      rw [HZ.out] at hb
      obtain ⟨t, ht⟩ : ∃ t, T[k].toNat = t := ⟨_, rfl⟩
      rw [ht] at hb
      rcases Nat.lt_trichotomy k z with g | g | g
      · have n1 : ((t : Int) == 47) = false := by simpa using (by have := hb.1 g; omega : ¬ ((t : Int) = 47))
        rw [if_neg (by omega)]
        clear hb
        go_wp2_with fail
        go_roundg (T.size - (k + 1))
        case measure => omega
        case rel => exact ⟨k + 1, rfl, by rw [if_neg (by omega)], by omega, by omega, S⟩
      · have n1 : ((t : Int) == 47) = true := by simpa using (by have := hb.2 g; omega : ((t : Int) = 47))
        subst g
        rw [if_neg (by omega)]
        clear hb
        go_wp2_with fail
        go_roundg (T.size - (k + 1))
        case measure => omega
        case rel => exact ⟨k + 1, rfl, by rw [if_pos (by omega)], by omega, by omega, S⟩
      · rw [if_pos g]
        have n2 : ((z : Int) == (T.size : Int)) = false := by simpa using (by omega : ¬ ((z : Int) = (T.size : Int)))
        clear hb
        by_cases n3 : t = 47
        · have n1 : ((t : Int) == 47) = true := by rw [n3]; rfl
          go_wp2_with fail
          go_roundg (T.size - (k + 1))
          case measure => omega
          case rel => exact ⟨k + 1, rfl, by rw [if_pos (by omega)], by omega, by omega, S⟩
        · have n1 : ((t : Int) == 47) = false := by simpa using (by omega : ¬ ((t : Int) = 47))
          go_wp2_with fail
          go_roundg (T.size - (k + 1))
          case measure => omega
          case rel => exact ⟨k + 1, rfl, by rw [if_pos (by omega)], by omega, by omega, S⟩
    · have hk2 : k = T.size := by omega
      subst hk2
      rw [show (if z < T.size then z else T.size : Nat) = z by split <;> omega]
      rename World => W1
      by_cases gs : z < T.size
      · have h2 := H2.out
        rw [if_pos gs] at h2
        have b2 := numT_range h2
        have N2 := fun w => Lib.hid (refNumber_any (T.extract (z + 1) T.size) w v2 o2 (by rw [Lib.extract_to_end]; exact h2))
        have wz : IntKind.i64.wrap ((z : Int) + 1) = ((z + 1 : Nat) : Int) := by rw [IntWalk.i64_in _ (by omega)]; omega
        clear h2 H2 HZ
        cases o1
        · have h3 := HH.out
          rw [if_neg (fun g => by cases g.1)] at h3
          obtain ⟨c1, c2, c3⟩ := threeB h3
          subst c1; subst c2; subst c3
          clear h3 HH
          obtain ⟨_, _, B0⟩ := S.out
          clear B0
          go_wp2_with fail
          (with_reducible refine ((N1 _).out).mono ?_)
          rintro e w1 ⟨rfl, rfl⟩
          go_wp2_with fail
          (with_reducible refine ((N2 _).out).mono ?_)
          rintro e w1 ⟨rfl, rfl⟩
          have A1 := Lib.hid (PrA.new S.out (-v1) v2)
          have es := HS.out
          subst es
          have wn : IntKind.i64.wrap (-v1) = -v1 := by rw [IntWalk.i64_in _ (by omega)]
          obtain ⟨⟨_, r0, r1⟩, ⟨f0, f1⟩, B⟩ := A1.out.1
          have HB := Lib.hid B
          clear B
          go_wp2_with fail
          obtain ⟨_, r8, r9⟩ := Blk.set (x := .int .i64 0) (y := .int .i64 0) A1.out.1.1
          refine bodyPost_ret (by simp [results, Tryd.results14, go_sem, r8, r9]; try rfl) rfl ?_
          have B := HB.out
          exact ⟨rfl, (by repeat' (first | (with_reducible exact Below.refl _ _) | (with_reducible assumption) | (with_reducible refine Below.alloc ?_ ?_ _) | (with_reducible refine below_drew ?_ _) | (with_reducible refine Below.drew ?_) | (with_reducible refine Below.setCell ?_ ?_ _) | go_size))⟩
        · cases o2
          · have h3 := HH.out
            rw [if_neg (fun g => by cases g.2.1)] at h3
            obtain ⟨c1, c2, c3⟩ := threeB h3
            subst c1; subst c2; subst c3
            clear h3 HH
            obtain ⟨_, _, B0⟩ := S.out
            clear B0
            go_wp2_with fail
            (with_reducible refine ((N1 _).out).mono ?_)
            rintro e w1 ⟨rfl, rfl⟩
            go_wp2_with fail
            (with_reducible refine ((N2 _).out).mono ?_)
            rintro e w1 ⟨rfl, rfl⟩
            have A1 := Lib.hid (PrA.new S.out (-v1) v2)
            have es := HS.out
            subst es
            have wn : IntKind.i64.wrap (-v1) = -v1 := by rw [IntWalk.i64_in _ (by omega)]
            obtain ⟨⟨_, r0, r1⟩, ⟨f0, f1⟩, B⟩ := A1.out.1
            have HB := Lib.hid B
            clear B
            go_wp2_with fail
            obtain ⟨_, r8, r9⟩ := Blk.set (x := .int .i64 0) (y := .int .i64 0) A1.out.1.1
            refine bodyPost_ret (by simp [results, Tryd.results14, go_sem, r8, r9]; try rfl) rfl ?_
            have B := HB.out
            exact ⟨rfl, (by repeat' (first | (with_reducible exact Below.refl _ _) | (with_reducible assumption) | (with_reducible refine Below.alloc ?_ ?_ _) | (with_reducible refine below_drew ?_ _) | (with_reducible refine Below.drew ?_) | (with_reducible refine Below.setCell ?_ ?_ _) | go_size))⟩
          · have rs : -9223372036854775808 ≤ sg ∧ sg ≤ 9223372036854775807 := by have := HS.out; omega
            have CV := fun w => Lib.hid (refValid_any sg v2 w rs.1 rs.2 (by omega) (by omega))
            cases hv : vB sg v2
            · rw [hv] at CV
              have h3 := HH.out
              rw [hv, if_neg (fun g => by cases g.2.2.1)] at h3
              obtain ⟨c1, c2, c3⟩ := threeB h3
              subst c1; subst c2; subst c3
              clear h3 HH
              obtain ⟨_, _, B0⟩ := S.out
              clear B0
              go_wp2_with fail
              (with_reducible refine ((N1 _).out).mono ?_)
              rintro e w1 ⟨rfl, rfl⟩
              go_wp2_with fail
              (with_reducible refine ((N2 _).out).mono ?_)
              rintro e w1 ⟨rfl, rfl⟩
              have A1 := Lib.hid (PrA.new S.out (-v1) v2)
              have es := HS.out
              subst es
              have wn : IntKind.i64.wrap (-v1) = -v1 := by rw [IntWalk.i64_in _ (by omega)]
              go_wp2_with fail
              (with_reducible refine ((CV _).out).mono ?_)
              rintro e w2 ⟨rfl, hb1⟩
              have B1 := Lib.hid (A1.out.on hb1)
              clear hb1 A1
              obtain ⟨_, ⟨_, a0, a1⟩, ⟨f2, f3⟩, _⟩ := B1.out
              obtain ⟨⟨_, r0, r1⟩, ⟨f0, f1⟩, B⟩ := B1.out.1
              have HB := Lib.hid B
              clear B
              go_wp2_with fail
              obtain ⟨_, r8, r9⟩ := Blk.set (x := .int .i64 0) (y := .int .i64 0) B1.out.1.1
              refine bodyPost_ret (by simp [results, Tryd.results14, go_sem, r8, r9]; try rfl) rfl ?_
              have B := HB.out
              exact ⟨rfl, (by repeat' (first | (with_reducible exact Below.refl _ _) | (with_reducible assumption) | (with_reducible refine Below.alloc ?_ ?_ _) | (with_reducible refine below_drew ?_ _) | (with_reducible refine Below.drew ?_) | (with_reducible refine Below.setCell ?_ ?_ _) | go_size))⟩
            · rw [hv] at CV
              obtain ⟨tt, htt⟩ : ∃ tt : ByteArray, tt = ⟨(txt sg v2).toArray⟩ := ⟨_, rfl⟩
              have CT := fun w => Lib.hid (refText_any sg v2 w (vB_vld hv))
              rw [← htt] at CT
              by_cases g : txt sg v2 = s.data.toList
              · have q1 : (tt.toList == s.toList) = true := by rw [htt, g]; exact beq_iff_eq.2 rfl
                clear htt
                have h3 := HH.out
                rw [if_pos ⟨rfl, rfl, hv, g⟩] at h3
                obtain ⟨c1, c2, c3⟩ := threeB h3
                subst c1; subst c2; subst c3
                clear h3 HH
                obtain ⟨_, _, B0⟩ := S.out
                clear B0
                go_wp2_with fail
                (with_reducible refine ((N1 _).out).mono ?_)
                rintro e w1 ⟨rfl, rfl⟩
                go_wp2_with fail
                (with_reducible refine ((N2 _).out).mono ?_)
                rintro e w1 ⟨rfl, rfl⟩
                have A1 := Lib.hid (PrA.new S.out (-v1) v2)
                have es := HS.out
                subst es
                have wn : IntKind.i64.wrap (-v1) = -v1 := by rw [IntWalk.i64_in _ (by omega)]
                go_wp2_with fail
                (with_reducible refine ((CV _).out).mono ?_)
                rintro e w2 ⟨rfl, hb1⟩
                have B1 := Lib.hid (A1.out.on hb1)
                clear hb1 A1
                obtain ⟨_, ⟨_, a0, a1⟩, ⟨f2, f3⟩, _⟩ := B1.out
                go_wp2_with fail
                (with_reducible refine ((CT _).out).mono ?_)
                rintro e w3 ⟨rfl, hb1⟩
                have B2 := Lib.hid (B1.out.on hb1)
                clear hb1 a0 a1 f2 f3
                obtain ⟨_, ⟨_, a0, a1⟩, ⟨f2, f3⟩, _⟩ := B2.out
                obtain ⟨⟨_, r0, r1⟩, ⟨f0, f1⟩, B⟩ := B2.out.1
                have HB := Lib.hid B
                clear B
                go_wp2_with fail
                obtain ⟨_, r8, r9⟩ := Blk.set (x := .int .i64 (-v1)) (y := .int .i64 v2) B2.out.1.1
                refine bodyPost_ret (by simp [results, Tryd.results14, go_sem, r8, r9]; try rfl) rfl ?_
                have B := HB.out
                exact ⟨rfl, (by repeat' (first | (with_reducible exact Below.refl _ _) | (with_reducible assumption) | (with_reducible refine Below.alloc ?_ ?_ _) | (with_reducible refine below_drew ?_ _) | (with_reducible refine Below.drew ?_) | (with_reducible refine Below.setCell ?_ ?_ _) | go_size))⟩
              · have q1 : (tt.toList == s.toList) = false := beq_eq_false_iff_ne.2 (fun k => g (by rw [htt, Lib.toList_data, Lib.toList_data] at k; simpa using k))
                clear htt
                have h3 := HH.out
                rw [if_neg (fun k => g k.2.2.2)] at h3
                obtain ⟨c1, c2, c3⟩ := threeB h3
                subst c1; subst c2; subst c3
                clear h3 HH
                obtain ⟨_, _, B0⟩ := S.out
                clear B0
                go_wp2_with fail
                (with_reducible refine ((N1 _).out).mono ?_)
                rintro e w1 ⟨rfl, rfl⟩
                go_wp2_with fail
                (with_reducible refine ((N2 _).out).mono ?_)
                rintro e w1 ⟨rfl, rfl⟩
                have A1 := Lib.hid (PrA.new S.out (-v1) v2)
                have es := HS.out
                subst es
                have wn : IntKind.i64.wrap (-v1) = -v1 := by rw [IntWalk.i64_in _ (by omega)]
                go_wp2_with fail
                (with_reducible refine ((CV _).out).mono ?_)
                rintro e w2 ⟨rfl, hb1⟩
                have B1 := Lib.hid (A1.out.on hb1)
                clear hb1 A1
                obtain ⟨_, ⟨_, a0, a1⟩, ⟨f2, f3⟩, _⟩ := B1.out
                go_wp2_with fail
                (with_reducible refine ((CT _).out).mono ?_)
                rintro e w3 ⟨rfl, hb1⟩
                have B2 := Lib.hid (B1.out.on hb1)
                clear hb1 a0 a1 f2 f3
                obtain ⟨_, ⟨_, a0, a1⟩, ⟨f2, f3⟩, _⟩ := B2.out
                obtain ⟨⟨_, r0, r1⟩, ⟨f0, f1⟩, B⟩ := B2.out.1
                have HB := Lib.hid B
                clear B
                go_wp2_with fail
                obtain ⟨_, r8, r9⟩ := Blk.set (x := .int .i64 0) (y := .int .i64 0) B2.out.1.1
                refine bodyPost_ret (by simp [results, Tryd.results14, go_sem, r8, r9]; try rfl) rfl ?_
                have B := HB.out
                exact ⟨rfl, (by repeat' (first | (with_reducible exact Below.refl _ _) | (with_reducible assumption) | (with_reducible refine Below.alloc ?_ ?_ _) | (with_reducible refine below_drew ?_ _) | (with_reducible refine Below.drew ?_) | (with_reducible refine Below.setCell ?_ ?_ _) | go_size))⟩
      · have h2 := H2.out
        rw [if_neg gs] at h2
        have b2 : (0 : Int) ≤ v2 ∧ v2 ≤ 9223372036854775807 := by injection h2 with e1 e2; omega
        obtain ⟨e1, e2⟩ : (1 : Int) = v2 ∧ true = o2 := by injection h2 with e1 e2; exact ⟨e1, e2⟩
        subst e1; subst e2
        clear h2 H2 HZ
        cases o1
        · have h3 := HH.out
          rw [if_neg (fun g => by cases g.1)] at h3
          obtain ⟨c1, c2, c3⟩ := threeB h3
          subst c1; subst c2; subst c3
          clear h3 HH
          obtain ⟨_, _, B0⟩ := S.out
          clear B0
          go_wp2_with fail
          (with_reducible refine ((N1 _).out).mono ?_)
          rintro e w1 ⟨rfl, rfl⟩
          have A1 := Lib.hid (PrA.new S.out (-v1) 1)
          have es := HS.out
          subst es
          have wn : IntKind.i64.wrap (-v1) = -v1 := by rw [IntWalk.i64_in _ (by omega)]
          obtain ⟨⟨_, r0, r1⟩, ⟨f0, f1⟩, B⟩ := A1.out.1
          have HB := Lib.hid B
          clear B
          go_wp2_with fail
          obtain ⟨_, r8, r9⟩ := Blk.set (x := .int .i64 0) (y := .int .i64 0) A1.out.1.1
          refine bodyPost_ret (by simp [results, Tryd.results14, go_sem, r8, r9]; try rfl) rfl ?_
          have B := HB.out
          exact ⟨rfl, (by repeat' (first | (with_reducible exact Below.refl _ _) | (with_reducible assumption) | (with_reducible refine Below.alloc ?_ ?_ _) | (with_reducible refine below_drew ?_ _) | (with_reducible refine Below.drew ?_) | (with_reducible refine Below.setCell ?_ ?_ _) | go_size))⟩
        · have rs : -9223372036854775808 ≤ sg ∧ sg ≤ 9223372036854775807 := by have := HS.out; omega
          have CV := fun w => Lib.hid (refValid_any sg 1 w rs.1 rs.2 (by omega) (by omega))
          cases hv : vB sg 1
          · rw [hv] at CV
            have h3 := HH.out
            rw [hv, if_neg (fun g => by cases g.2.2.1)] at h3
            obtain ⟨c1, c2, c3⟩ := threeB h3
            subst c1; subst c2; subst c3
            clear h3 HH
            obtain ⟨_, _, B0⟩ := S.out
            clear B0
            go_wp2_with fail
            (with_reducible refine ((N1 _).out).mono ?_)
            rintro e w1 ⟨rfl, rfl⟩
            have A1 := Lib.hid (PrA.new S.out (-v1) 1)
            have es := HS.out
            subst es
            have wn : IntKind.i64.wrap (-v1) = -v1 := by rw [IntWalk.i64_in _ (by omega)]
            go_wp2_with fail
            (with_reducible refine ((CV _).out).mono ?_)
            rintro e w2 ⟨rfl, hb1⟩
            have B1 := Lib.hid (A1.out.on hb1)
            clear hb1 A1
            obtain ⟨_, ⟨_, a0, a1⟩, ⟨f2, f3⟩, _⟩ := B1.out
            obtain ⟨⟨_, r0, r1⟩, ⟨f0, f1⟩, B⟩ := B1.out.1
            have HB := Lib.hid B
            clear B
            go_wp2_with fail
            obtain ⟨_, r8, r9⟩ := Blk.set (x := .int .i64 0) (y := .int .i64 0) B1.out.1.1
            refine bodyPost_ret (by simp [results, Tryd.results14, go_sem, r8, r9]; try rfl) rfl ?_
            have B := HB.out
            exact ⟨rfl, (by repeat' (first | (with_reducible exact Below.refl _ _) | (with_reducible assumption) | (with_reducible refine Below.alloc ?_ ?_ _) | (with_reducible refine below_drew ?_ _) | (with_reducible refine Below.drew ?_) | (with_reducible refine Below.setCell ?_ ?_ _) | go_size))⟩
          · rw [hv] at CV
            obtain ⟨tt, htt⟩ : ∃ tt : ByteArray, tt = ⟨(txt sg 1).toArray⟩ := ⟨_, rfl⟩
            have CT := fun w => Lib.hid (refText_any sg 1 w (vB_vld hv))
            rw [← htt] at CT
            by_cases g : txt sg 1 = s.data.toList
            · have q1 : (tt.toList == s.toList) = true := by rw [htt, g]; exact beq_iff_eq.2 rfl
              clear htt
              have h3 := HH.out
              rw [if_pos ⟨rfl, rfl, hv, g⟩] at h3
              obtain ⟨c1, c2, c3⟩ := threeB h3
              subst c1; subst c2; subst c3
              clear h3 HH
              obtain ⟨_, _, B0⟩ := S.out
              clear B0
              go_wp2_with fail
              (with_reducible refine ((N1 _).out).mono ?_)
              rintro e w1 ⟨rfl, rfl⟩
              have A1 := Lib.hid (PrA.new S.out (-v1) 1)
              have es := HS.out
              subst es
              have wn : IntKind.i64.wrap (-v1) = -v1 := by rw [IntWalk.i64_in _ (by omega)]
              go_wp2_with fail
              (with_reducible refine ((CV _).out).mono ?_)
              rintro e w2 ⟨rfl, hb1⟩
              have B1 := Lib.hid (A1.out.on hb1)
              clear hb1 A1
              obtain ⟨_, ⟨_, a0, a1⟩, ⟨f2, f3⟩, _⟩ := B1.out
              go_wp2_with fail
              (with_reducible refine ((CT _).out).mono ?_)
              rintro e w3 ⟨rfl, hb1⟩
              have B2 := Lib.hid (B1.out.on hb1)
              clear hb1 a0 a1 f2 f3
              obtain ⟨_, ⟨_, a0, a1⟩, ⟨f2, f3⟩, _⟩ := B2.out
              obtain ⟨⟨_, r0, r1⟩, ⟨f0, f1⟩, B⟩ := B2.out.1
              have HB := Lib.hid B
              clear B
              go_wp2_with fail
              obtain ⟨_, r8, r9⟩ := Blk.set (x := .int .i64 (-v1)) (y := .int .i64 1) B2.out.1.1
              refine bodyPost_ret (by simp [results, Tryd.results14, go_sem, r8, r9]; try rfl) rfl ?_
              have B := HB.out
              exact ⟨rfl, (by repeat' (first | (with_reducible exact Below.refl _ _) | (with_reducible assumption) | (with_reducible refine Below.alloc ?_ ?_ _) | (with_reducible refine below_drew ?_ _) | (with_reducible refine Below.drew ?_) | (with_reducible refine Below.setCell ?_ ?_ _) | go_size))⟩
            · have q1 : (tt.toList == s.toList) = false := beq_eq_false_iff_ne.2 (fun k => g (by rw [htt, Lib.toList_data, Lib.toList_data] at k; simpa using k))
              clear htt
              have h3 := HH.out
              rw [if_neg (fun k => g k.2.2.2)] at h3
              obtain ⟨c1, c2, c3⟩ := threeB h3
              subst c1; subst c2; subst c3
              clear h3 HH
              obtain ⟨_, _, B0⟩ := S.out
              clear B0
              go_wp2_with fail
              (with_reducible refine ((N1 _).out).mono ?_)
              rintro e w1 ⟨rfl, rfl⟩
              have A1 := Lib.hid (PrA.new S.out (-v1) 1)
              have es := HS.out
              subst es
              have wn : IntKind.i64.wrap (-v1) = -v1 := by rw [IntWalk.i64_in _ (by omega)]
              go_wp2_with fail
              (with_reducible refine ((CV _).out).mono ?_)
              rintro e w2 ⟨rfl, hb1⟩
              have B1 := Lib.hid (A1.out.on hb1)
              clear hb1 A1
              obtain ⟨_, ⟨_, a0, a1⟩, ⟨f2, f3⟩, _⟩ := B1.out
              go_wp2_with fail
              (with_reducible refine ((CT _).out).mono ?_)
              rintro e w3 ⟨rfl, hb1⟩
              have B2 := Lib.hid (B1.out.on hb1)
              clear hb1 a0 a1 f2 f3
              obtain ⟨_, ⟨_, a0, a1⟩, ⟨f2, f3⟩, _⟩ := B2.out
              obtain ⟨⟨_, r0, r1⟩, ⟨f0, f1⟩, B⟩ := B2.out.1
              have HB := Lib.hid B
              clear B
              go_wp2_with fail
              obtain ⟨_, r8, r9⟩ := Blk.set (x := .int .i64 0) (y := .int .i64 0) B2.out.1.1
              refine bodyPost_ret (by simp [results, Tryd.results14, go_sem, r8, r9]; try rfl) rfl ?_
              have B := HB.out
              exact ⟨rfl, (by repeat' (first | (with_reducible exact Below.refl _ _) | (with_reducible assumption) | (with_reducible refine Below.alloc ?_ ?_ _) | (with_reducible refine below_drew ?_ _) | (with_reducible refine Below.drew ?_) | (with_reducible refine Below.setCell ?_ ?_ _) | go_size))⟩
set_option maxRecDepth 100000 in
set_option maxHeartbeats 8000000 in
theorem refParse_pos (s : ByteArray) (hs : s.size ≤ 200) (h0 : 0 < s.size) (c0 : s[0].toNat ≠ 45) (z : Nat) (hz : slashAt s.data.toList = z) (v1 : Int) (o1 : Bool) (h1 : numT (s.data.toList.take z) = (v1, o1)) (v2 : Int) (o2 : Bool) (h2 : (if z < s.size then numT (s.data.toList.drop (z + 1)) else (1, true)) = (v2, o2))  (x y : Int) (ok : Bool) (h : (if o1 = true ∧ o2 = true ∧ vB v1 v2 = true ∧ txt v1 v2 = s.data.toList then (v1, v2, true) else ((0 : Int), (0 : Int), false)) = (x, y, ok)) (w : World) :
    Calls Tryd.prog 14 #[.string s] w fun e w' => e = .returned (.tuple #[.agg #[.int .i64 x, .int .i64 y], .bool ok]) ∧ Below w.heap.size w w' := by
  have b1 := numT_range h1
  have zl := slash_le s.data.toList
  rw [hz, show s.data.toList.length = s.size by simp] at zl
  have N1 := fun w => Lib.hid (refNumber_any (s.extract 0 z) w v1 o1 (by rw [take_ext]; exact h1))
  have HZ := Lib.hid hz
  have H2 := Lib.hid h2
  have HH := Lib.hid h
  clear hz h1 h2 h
  have c1 : ((s[0].toNat : Int) == 45) = false := by simpa using (by omega : ¬ ((s[0].toNat : Int) = 45))
  go_enter Tryd.func14, Tryd.ntmps14
  go_wp2_with fail
  have S0 := Lib.hid (PrS.new w)
  go_loopg [6, 7] s.size (fun g s6 s7 wx => ∃ (k : Nat), s7 = .int .i64 k ∧ s6 = .int .i64 ((if z < k then z else s.size : Nat) : Int) ∧ g = s.size - k ∧ k ≤ s.size ∧ Hid (PrS w wx))
  case atStart => exact ⟨0, rfl, by rw [if_neg (by omega)], rfl, Nat.zero_le _, S0⟩
  case round =>
    clear S0
    obtain ⟨k, rfl, rfl, rfl, hk, S⟩ := hrel
    by_cases hlt : k < s.size
    · have wk : IntKind.i64.wrap ((k : Int) + 1) = ((k + 1 : Nat) : Int) := by rw [IntWalk.i64_in _ (by omega)]; omega
      have hb := slash_byte s k hlt
      rw [HZ.out] at hb
      obtain ⟨t, ht⟩ : ∃ t, s[k].toNat = t := ⟨_, rfl⟩
      rw [ht] at hb
      rcases Nat.lt_trichotomy k z with g | g | g
      · have n1 : ((t : Int) == 47) = false := by simpa using (by have := hb.1 g; omega : ¬ ((t : Int) = 47))
        rw [if_neg (by omega)]
        clear hb
        go_wp2_with fail
        go_roundg (s.size - (k + 1))
        case measure => omega
        case rel => exact ⟨k + 1, rfl, by rw [if_neg (by omega)], by omega, by omega, S⟩
      · have n1 : ((t : Int) == 47) = true := by simpa using (by have := hb.2 g; omega : ((t : Int) = 47))
        subst g
        rw [if_neg (by omega)]
        clear hb
        go_wp2_with fail
        go_roundg (s.size - (k + 1))
        case measure => omega
        case rel => exact ⟨k + 1, rfl, by rw [if_pos (by omega)], by omega, by omega, S⟩
      · rw [if_pos g]
        have n2 : ((z : Int) == (s.size : Int)) = false := by simpa using (by omega : ¬ ((z : Int) = (s.size : Int)))
        clear hb
        by_cases n3 : t = 47
        · have n1 : ((t : Int) == 47) = true := by rw [n3]; rfl
          go_wp2_with fail
          go_roundg (s.size - (k + 1))
          case measure => omega
          case rel => exact ⟨k + 1, rfl, by rw [if_pos (by omega)], by omega, by omega, S⟩
        · have n1 : ((t : Int) == 47) = false := by simpa using (by omega : ¬ ((t : Int) = 47))
          go_wp2_with fail
          go_roundg (s.size - (k + 1))
          case measure => omega
          case rel => exact ⟨k + 1, rfl, by rw [if_pos (by omega)], by omega, by omega, S⟩
    · have hk2 : k = s.size := by omega
      subst hk2
      rw [show (if z < s.size then z else s.size : Nat) = z by split <;> omega]
      rename World => W1
      by_cases gs : z < s.size
      · have h2 := H2.out
        rw [if_pos gs] at h2
        have b2 := numT_range h2
        have N2 := fun w => Lib.hid (refNumber_any (s.extract (z + 1) s.size) w v2 o2 (by rw [Lib.extract_to_end]; exact h2))
        have wz : IntKind.i64.wrap ((z : Int) + 1) = ((z + 1 : Nat) : Int) := by rw [IntWalk.i64_in _ (by omega)]; omega
        clear h2 H2 HZ
        cases o1
        · have h3 := HH.out
          rw [if_neg (fun g => by cases g.1)] at h3
          obtain ⟨c1, c2, c3⟩ := threeB h3
          subst c1; subst c2; subst c3
          clear h3 HH
          obtain ⟨_, _, B0⟩ := S.out
          clear B0
          go_wp2_with fail
          (with_reducible refine ((N1 _).out).mono ?_)
          rintro e w1 ⟨rfl, rfl⟩
          go_wp2_with fail
          (with_reducible refine ((N2 _).out).mono ?_)
          rintro e w1 ⟨rfl, rfl⟩
          have A1 := Lib.hid (PrA.new S.out v1 v2)
          obtain ⟨⟨_, r0, r1⟩, ⟨f0, f1⟩, B⟩ := A1.out.1
          have HB := Lib.hid B
          clear B
          go_wp2_with fail
          obtain ⟨_, r8, r9⟩ := Blk.set (x := .int .i64 0) (y := .int .i64 0) A1.out.1.1
          refine bodyPost_ret (by simp [results, Tryd.results14, go_sem, r8, r9]; try rfl) rfl ?_
          have B := HB.out
          exact ⟨rfl, (by repeat' (first | (with_reducible exact Below.refl _ _) | (with_reducible assumption) | (with_reducible refine Below.alloc ?_ ?_ _) | (with_reducible refine below_drew ?_ _) | (with_reducible refine Below.drew ?_) | (with_reducible refine Below.setCell ?_ ?_ _) | go_size))⟩
        · cases o2
          · have h3 := HH.out
            rw [if_neg (fun g => by cases g.2.1)] at h3
            obtain ⟨c1, c2, c3⟩ := threeB h3
            subst c1; subst c2; subst c3
            clear h3 HH
            obtain ⟨_, _, B0⟩ := S.out
            clear B0
            go_wp2_with fail
            (with_reducible refine ((N1 _).out).mono ?_)
            rintro e w1 ⟨rfl, rfl⟩
            go_wp2_with fail
            (with_reducible refine ((N2 _).out).mono ?_)
            rintro e w1 ⟨rfl, rfl⟩
            have A1 := Lib.hid (PrA.new S.out v1 v2)
            obtain ⟨⟨_, r0, r1⟩, ⟨f0, f1⟩, B⟩ := A1.out.1
            have HB := Lib.hid B
            clear B
            go_wp2_with fail
            obtain ⟨_, r8, r9⟩ := Blk.set (x := .int .i64 0) (y := .int .i64 0) A1.out.1.1
            refine bodyPost_ret (by simp [results, Tryd.results14, go_sem, r8, r9]; try rfl) rfl ?_
            have B := HB.out
            exact ⟨rfl, (by repeat' (first | (with_reducible exact Below.refl _ _) | (with_reducible assumption) | (with_reducible refine Below.alloc ?_ ?_ _) | (with_reducible refine below_drew ?_ _) | (with_reducible refine Below.drew ?_) | (with_reducible refine Below.setCell ?_ ?_ _) | go_size))⟩
          · have rs : -9223372036854775808 ≤ v1 ∧ v1 ≤ 9223372036854775807 := by  omega
            have CV := fun w => Lib.hid (refValid_any v1 v2 w rs.1 rs.2 (by omega) (by omega))
            cases hv : vB v1 v2
            · rw [hv] at CV
              have h3 := HH.out
              rw [hv, if_neg (fun g => by cases g.2.2.1)] at h3
              obtain ⟨c1, c2, c3⟩ := threeB h3
              subst c1; subst c2; subst c3
              clear h3 HH
              obtain ⟨_, _, B0⟩ := S.out
              clear B0
              go_wp2_with fail
              (with_reducible refine ((N1 _).out).mono ?_)
              rintro e w1 ⟨rfl, rfl⟩
              go_wp2_with fail
              (with_reducible refine ((N2 _).out).mono ?_)
              rintro e w1 ⟨rfl, rfl⟩
              have A1 := Lib.hid (PrA.new S.out v1 v2)
              go_wp2_with fail
              (with_reducible refine ((CV _).out).mono ?_)
              rintro e w2 ⟨rfl, hb1⟩
              have B1 := Lib.hid (A1.out.on hb1)
              clear hb1 A1
              obtain ⟨_, ⟨_, a0, a1⟩, ⟨f2, f3⟩, _⟩ := B1.out
              obtain ⟨⟨_, r0, r1⟩, ⟨f0, f1⟩, B⟩ := B1.out.1
              have HB := Lib.hid B
              clear B
              go_wp2_with fail
              obtain ⟨_, r8, r9⟩ := Blk.set (x := .int .i64 0) (y := .int .i64 0) B1.out.1.1
              refine bodyPost_ret (by simp [results, Tryd.results14, go_sem, r8, r9]; try rfl) rfl ?_
              have B := HB.out
              exact ⟨rfl, (by repeat' (first | (with_reducible exact Below.refl _ _) | (with_reducible assumption) | (with_reducible refine Below.alloc ?_ ?_ _) | (with_reducible refine below_drew ?_ _) | (with_reducible refine Below.drew ?_) | (with_reducible refine Below.setCell ?_ ?_ _) | go_size))⟩
            · rw [hv] at CV
              obtain ⟨tt, htt⟩ : ∃ tt : ByteArray, tt = ⟨(txt v1 v2).toArray⟩ := ⟨_, rfl⟩
              have CT := fun w => Lib.hid (refText_any v1 v2 w (vB_vld hv))
              rw [← htt] at CT
              by_cases g : txt v1 v2 = s.data.toList
              · have q1 : (tt.toList == s.toList) = true := by rw [htt, g]; exact beq_iff_eq.2 rfl
                clear htt
                have h3 := HH.out
                rw [if_pos ⟨rfl, rfl, hv, g⟩] at h3
                obtain ⟨c1, c2, c3⟩ := threeB h3
                subst c1; subst c2; subst c3
                clear h3 HH
                obtain ⟨_, _, B0⟩ := S.out
                clear B0
                go_wp2_with fail
                (with_reducible refine ((N1 _).out).mono ?_)
                rintro e w1 ⟨rfl, rfl⟩
                go_wp2_with fail
                (with_reducible refine ((N2 _).out).mono ?_)
                rintro e w1 ⟨rfl, rfl⟩
                have A1 := Lib.hid (PrA.new S.out v1 v2)
                go_wp2_with fail
                (with_reducible refine ((CV _).out).mono ?_)
                rintro e w2 ⟨rfl, hb1⟩
                have B1 := Lib.hid (A1.out.on hb1)
                clear hb1 A1
                obtain ⟨_, ⟨_, a0, a1⟩, ⟨f2, f3⟩, _⟩ := B1.out
                go_wp2_with fail
                (with_reducible refine ((CT _).out).mono ?_)
                rintro e w3 ⟨rfl, hb1⟩
                have B2 := Lib.hid (B1.out.on hb1)
                clear hb1 a0 a1 f2 f3
                obtain ⟨_, ⟨_, a0, a1⟩, ⟨f2, f3⟩, _⟩ := B2.out
                obtain ⟨⟨_, r0, r1⟩, ⟨f0, f1⟩, B⟩ := B2.out.1
                have HB := Lib.hid B
                clear B
                go_wp2_with fail
                obtain ⟨_, r8, r9⟩ := Blk.set (x := .int .i64 v1) (y := .int .i64 v2) B2.out.1.1
                refine bodyPost_ret (by simp [results, Tryd.results14, go_sem, r8, r9]; try rfl) rfl ?_
                have B := HB.out
                exact ⟨rfl, (by repeat' (first | (with_reducible exact Below.refl _ _) | (with_reducible assumption) | (with_reducible refine Below.alloc ?_ ?_ _) | (with_reducible refine below_drew ?_ _) | (with_reducible refine Below.drew ?_) | (with_reducible refine Below.setCell ?_ ?_ _) | go_size))⟩
              · have q1 : (tt.toList == s.toList) = false := beq_eq_false_iff_ne.2 (fun k => g (by rw [htt, Lib.toList_data, Lib.toList_data] at k; simpa using k))
                clear htt
                have h3 := HH.out
                rw [if_neg (fun k => g k.2.2.2)] at h3
                obtain ⟨c1, c2, c3⟩ := threeB h3
                subst c1; subst c2; subst c3
                clear h3 HH
                obtain ⟨_, _, B0⟩ := S.out
                clear B0
                go_wp2_with fail
                (with_reducible refine ((N1 _).out).mono ?_)
                rintro e w1 ⟨rfl, rfl⟩
                go_wp2_with fail
                (with_reducible refine ((N2 _).out).mono ?_)
                rintro e w1 ⟨rfl, rfl⟩
                have A1 := Lib.hid (PrA.new S.out v1 v2)
                go_wp2_with fail
                (with_reducible refine ((CV _).out).mono ?_)
                rintro e w2 ⟨rfl, hb1⟩
                have B1 := Lib.hid (A1.out.on hb1)
                clear hb1 A1
                obtain ⟨_, ⟨_, a0, a1⟩, ⟨f2, f3⟩, _⟩ := B1.out
                go_wp2_with fail
                (with_reducible refine ((CT _).out).mono ?_)
                rintro e w3 ⟨rfl, hb1⟩
                have B2 := Lib.hid (B1.out.on hb1)
                clear hb1 a0 a1 f2 f3
                obtain ⟨_, ⟨_, a0, a1⟩, ⟨f2, f3⟩, _⟩ := B2.out
                obtain ⟨⟨_, r0, r1⟩, ⟨f0, f1⟩, B⟩ := B2.out.1
                have HB := Lib.hid B
                clear B
                go_wp2_with fail
                obtain ⟨_, r8, r9⟩ := Blk.set (x := .int .i64 0) (y := .int .i64 0) B2.out.1.1
                refine bodyPost_ret (by simp [results, Tryd.results14, go_sem, r8, r9]; try rfl) rfl ?_
                have B := HB.out
                exact ⟨rfl, (by repeat' (first | (with_reducible exact Below.refl _ _) | (with_reducible assumption) | (with_reducible refine Below.alloc ?_ ?_ _) | (with_reducible refine below_drew ?_ _) | (with_reducible refine Below.drew ?_) | (with_reducible refine Below.setCell ?_ ?_ _) | go_size))⟩
      · have h2 := H2.out
        rw [if_neg gs] at h2
        have b2 : (0 : Int) ≤ v2 ∧ v2 ≤ 9223372036854775807 := by injection h2 with e1 e2; omega
        obtain ⟨e1, e2⟩ : (1 : Int) = v2 ∧ true = o2 := by injection h2 with e1 e2; exact ⟨e1, e2⟩
        subst e1; subst e2
        clear h2 H2 HZ
        cases o1
        · have h3 := HH.out
          rw [if_neg (fun g => by cases g.1)] at h3
          obtain ⟨c1, c2, c3⟩ := threeB h3
          subst c1; subst c2; subst c3
          clear h3 HH
          obtain ⟨_, _, B0⟩ := S.out
          clear B0
          go_wp2_with fail
          (with_reducible refine ((N1 _).out).mono ?_)
          rintro e w1 ⟨rfl, rfl⟩
          have A1 := Lib.hid (PrA.new S.out v1 1)
          obtain ⟨⟨_, r0, r1⟩, ⟨f0, f1⟩, B⟩ := A1.out.1
          have HB := Lib.hid B
          clear B
          go_wp2_with fail
          obtain ⟨_, r8, r9⟩ := Blk.set (x := .int .i64 0) (y := .int .i64 0) A1.out.1.1
          refine bodyPost_ret (by simp [results, Tryd.results14, go_sem, r8, r9]; try rfl) rfl ?_
          have B := HB.out
          exact ⟨rfl, (by repeat' (first | (with_reducible exact Below.refl _ _) | (with_reducible assumption) | (with_reducible refine Below.alloc ?_ ?_ _) | (with_reducible refine below_drew ?_ _) | (with_reducible refine Below.drew ?_) | (with_reducible refine Below.setCell ?_ ?_ _) | go_size))⟩
        · have rs : -9223372036854775808 ≤ v1 ∧ v1 ≤ 9223372036854775807 := by  omega
          have CV := fun w => Lib.hid (refValid_any v1 1 w rs.1 rs.2 (by omega) (by omega))
          cases hv : vB v1 1
          · rw [hv] at CV
            have h3 := HH.out
            rw [hv, if_neg (fun g => by cases g.2.2.1)] at h3
            obtain ⟨c1, c2, c3⟩ := threeB h3
            subst c1; subst c2; subst c3
            clear h3 HH
            obtain ⟨_, _, B0⟩ := S.out
            clear B0
            go_wp2_with fail
            (with_reducible refine ((N1 _).out).mono ?_)
            rintro e w1 ⟨rfl, rfl⟩
            have A1 := Lib.hid (PrA.new S.out v1 1)
            go_wp2_with fail
            (with_reducible refine ((CV _).out).mono ?_)
            rintro e w2 ⟨rfl, hb1⟩
            have B1 := Lib.hid (A1.out.on hb1)
            clear hb1 A1
            obtain ⟨_, ⟨_, a0, a1⟩, ⟨f2, f3⟩, _⟩ := B1.out
            obtain ⟨⟨_, r0, r1⟩, ⟨f0, f1⟩, B⟩ := B1.out.1
            have HB := Lib.hid B
            clear B
            go_wp2_with fail
            obtain ⟨_, r8, r9⟩ := Blk.set (x := .int .i64 0) (y := .int .i64 0) B1.out.1.1
            refine bodyPost_ret (by simp [results, Tryd.results14, go_sem, r8, r9]; try rfl) rfl ?_
            have B := HB.out
            exact ⟨rfl, (by repeat' (first | (with_reducible exact Below.refl _ _) | (with_reducible assumption) | (with_reducible refine Below.alloc ?_ ?_ _) | (with_reducible refine below_drew ?_ _) | (with_reducible refine Below.drew ?_) | (with_reducible refine Below.setCell ?_ ?_ _) | go_size))⟩
          · rw [hv] at CV
            obtain ⟨tt, htt⟩ : ∃ tt : ByteArray, tt = ⟨(txt v1 1).toArray⟩ := ⟨_, rfl⟩
            have CT := fun w => Lib.hid (refText_any v1 1 w (vB_vld hv))
            rw [← htt] at CT
            by_cases g : txt v1 1 = s.data.toList
            · have q1 : (tt.toList == s.toList) = true := by rw [htt, g]; exact beq_iff_eq.2 rfl
              clear htt
              have h3 := HH.out
              rw [if_pos ⟨rfl, rfl, hv, g⟩] at h3
              obtain ⟨c1, c2, c3⟩ := threeB h3
              subst c1; subst c2; subst c3
              clear h3 HH
              obtain ⟨_, _, B0⟩ := S.out
              clear B0
              go_wp2_with fail
              (with_reducible refine ((N1 _).out).mono ?_)
              rintro e w1 ⟨rfl, rfl⟩
              have A1 := Lib.hid (PrA.new S.out v1 1)
              go_wp2_with fail
              (with_reducible refine ((CV _).out).mono ?_)
              rintro e w2 ⟨rfl, hb1⟩
              have B1 := Lib.hid (A1.out.on hb1)
              clear hb1 A1
              obtain ⟨_, ⟨_, a0, a1⟩, ⟨f2, f3⟩, _⟩ := B1.out
              go_wp2_with fail
              (with_reducible refine ((CT _).out).mono ?_)
              rintro e w3 ⟨rfl, hb1⟩
              have B2 := Lib.hid (B1.out.on hb1)
              clear hb1 a0 a1 f2 f3
              obtain ⟨_, ⟨_, a0, a1⟩, ⟨f2, f3⟩, _⟩ := B2.out
              obtain ⟨⟨_, r0, r1⟩, ⟨f0, f1⟩, B⟩ := B2.out.1
              have HB := Lib.hid B
              clear B
              go_wp2_with fail
              obtain ⟨_, r8, r9⟩ := Blk.set (x := .int .i64 v1) (y := .int .i64 1) B2.out.1.1
              refine bodyPost_ret (by simp [results, Tryd.results14, go_sem, r8, r9]; try rfl) rfl ?_
              have B := HB.out
              exact ⟨rfl, (by repeat' (first | (with_reducible exact Below.refl _ _) | (with_reducible assumption) | (with_reducible refine Below.alloc ?_ ?_ _) | (with_reducible refine below_drew ?_ _) | (with_reducible refine Below.drew ?_) | (with_reducible refine Below.setCell ?_ ?_ _) | go_size))⟩
            · have q1 : (tt.toList == s.toList) = false := beq_eq_false_iff_ne.2 (fun k => g (by rw [htt, Lib.toList_data, Lib.toList_data] at k; simpa using k))
              clear htt
              have h3 := HH.out
              rw [if_neg (fun k => g k.2.2.2)] at h3
              obtain ⟨c1, c2, c3⟩ := threeB h3
              subst c1; subst c2; subst c3
              clear h3 HH
              obtain ⟨_, _, B0⟩ := S.out
              clear B0
              go_wp2_with fail
              (with_reducible refine ((N1 _).out).mono ?_)
              rintro e w1 ⟨rfl, rfl⟩
              have A1 := Lib.hid (PrA.new S.out v1 1)
              go_wp2_with fail
              (with_reducible refine ((CV _).out).mono ?_)
              rintro e w2 ⟨rfl, hb1⟩
              have B1 := Lib.hid (A1.out.on hb1)
              clear hb1 A1
              obtain ⟨_, ⟨_, a0, a1⟩, ⟨f2, f3⟩, _⟩ := B1.out
              go_wp2_with fail
              (with_reducible refine ((CT _).out).mono ?_)
              rintro e w3 ⟨rfl, hb1⟩
              have B2 := Lib.hid (B1.out.on hb1)
              clear hb1 a0 a1 f2 f3
              obtain ⟨_, ⟨_, a0, a1⟩, ⟨f2, f3⟩, _⟩ := B2.out
              obtain ⟨⟨_, r0, r1⟩, ⟨f0, f1⟩, B⟩ := B2.out.1
              have HB := Lib.hid B
              clear B
              go_wp2_with fail
              obtain ⟨_, r8, r9⟩ := Blk.set (x := .int .i64 0) (y := .int .i64 0) B2.out.1.1
              refine bodyPost_ret (by simp [results, Tryd.results14, go_sem, r8, r9]; try rfl) rfl ?_
              have B := HB.out
              exact ⟨rfl, (by repeat' (first | (with_reducible exact Below.refl _ _) | (with_reducible assumption) | (with_reducible refine Below.alloc ?_ ?_ _) | (with_reducible refine below_drew ?_ _) | (with_reducible refine Below.drew ?_) | (with_reducible refine Below.setCell ?_ ?_ _) | go_size))⟩

end Go.Proofs.YtfcplndfoboaaaaDoor
