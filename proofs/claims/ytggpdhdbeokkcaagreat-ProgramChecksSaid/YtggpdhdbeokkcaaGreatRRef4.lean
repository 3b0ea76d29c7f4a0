/- The reference of layer 2: the quotient and the remainder of two magnitudes: the loop. -/
import Derived.Test.YtggpdhdbeokkcaaGreatRRef3
namespace Go.Proofs.YtggpdhdbeokkcaaGreat
set_option linter.unusedVariables false
open Go.RowKit Go.Shelf

def DivMid (w W : World) (B0 B1 CH CL QH QL XH XL : Int) : Prop := Blk W (w.heap.size) (.int .u64 CH) (.int .u64 CL) ∧ Blk W (w.heap.size + 1) (.int .u64 B0) (.int .u64 B1) ∧ Blk W (w.heap.size + 1 + 1) (.int .u64 0) (.int .u64 0) ∧ Blk W (w.heap.size + 1 + 1 + 1) (.int .u64 0) (.int .u64 0) ∧ Blk W (w.heap.size + 1 + 1 + 1 + 1) (.int .u64 QH) (.int .u64 QL) ∧ Blk W (w.heap.size + 1 + 1 + 1 + 1 + 1) (.int .u64 XH) (.int .u64 XL) ∧ Frz W (w.heap.size) ∧ Frz W (w.heap.size + 1 + 1) ∧ Frz W (w.heap.size + 1 + 1 + 1) ∧ Frz W (w.heap.size + 1 + 1 + 1 + 1) ∧ Frz W (w.heap.size + 1 + 1 + 1 + 1 + 1) ∧ Below w.heap.size w W
theorem DivMid.on {w W W2 : World} {B0 B1 CH CL QH QL XH XL : Int} (h : DivMid w W B0 B1 CH CL QH QL XH XL) (hb : Below W.heap.size W W2) : DivMid w W2 B0 B1 CH CL QH QL XH XL := by
 obtain ⟨ha, hB, hp, hs, hq, hr, fa, fp, fs, fq, fr, B⟩ := h
 exact ⟨ha.on hb, hB.on hb, hp.on hb, hs.on hb, hq.on hb, hr.on hb, fa.on ha.1 hb, fp.on hp.1 hb, fs.on hs.1 hb, fq.on hq.1 hb, fr.on hr.1 hb, below_on B hb⟩
theorem DivMid.fin {w W : World} {b c' Q' R' CH CL QH QL XH XL MH ML Q1 : Int} (h : DivMid w W (hiW b) (loW b) CH CL QH QL XH XL) (h1 : CH = hiW c') (h2 : CL = loW c') (h3 : QH = hiW Q') (h4 : Q1 = loW Q') (h5 : MH = hiW R') (h6 : ML = loW R') :
  DivSt w (((W.setCell ⟨w.heap.size + 1 + 1 + 1 + 1 + 1, 0, none⟩ (.int .u64 MH)).setCell ⟨w.heap.size + 1 + 1 + 1 + 1 + 1, 1, none⟩ (.int .u64 ML)).setCell ⟨w.heap.size + 1 + 1 + 1 + 1, 1, none⟩ (.int .u64 Q1)) (hiW b) (loW b) c' Q' R' := by
 obtain ⟨ha, hb, hp, hs, hq, hr, fa, fp, fs, fq, fr, B⟩ := h
 unfold DivSt
 rw [← h1, ← h2, ← h3, ← h4, ← h5, ← h6]
 exact ⟨(ha.far (by omega)).far1 (by omega), (hb.far (by omega)).far1 (by omega), (hp.far (by omega)).far1 (by omega), (hs.far (by omega)).far1 (by omega), (hq.far (by omega)).set1, (hr.set).far1 (by omega), fa.set.set1, fp.set.set1, fs.set.set1, fq.set.set1, fr.set.set1, ((B.setCell (by simp; omega) _).setCell (by simp; omega) _).setCell (by simp; omega) _⟩
theorem DivMid.fin0 {w W : World} {b c' Q' R' CH CL QH QL XH XL : Int} (h : DivMid w W (hiW b) (loW b) CH CL QH QL XH XL) (h1 : CH = hiW c') (h2 : CL = loW c') (h3 : QH = hiW Q') (h4 : QL = loW Q') (h5 : XH = hiW R') (h6 : XL = loW R') :
  DivSt w W (hiW b) (loW b) c' Q' R' := by
 unfold DivSt
 rw [← h1, ← h2, ← h3, ← h4, ← h5, ← h6]
 exact h

set_option maxRecDepth 100000 in
set_option maxHeartbeats 4000000 in
theorem rdiv_big (A b : Int) (w : World) (A0 : 0 ≤ A) (A1 : A < 340282366920938463463374607431768211456) (b0 : 0 < b) (b1 : b < 340282366920938463463374607431768211456) (hbig : (hiW A == 0) = false ∨ ((hiW A == 0) = true ∧ (hiW b == 0) = false)) :
  Calls Tryz.prog 109 #[.agg #[.int .u64 (hiW A), .int .u64 (loW A)], .agg #[.int .u64 (hiW b), .int .u64 (loW b)]] w fun e w' => e = .returned (.tuple #[.agg #[.int .u64 (hiW (A / b)), .int .u64 (loW (A / b))], .agg #[.int .u64 (hiW (A % b)), .int .u64 (loW (A % b))]]) ∧ Below w.heap.size w w' := by
 have HA := Lib.hid A1
 have Hb := Lib.hid (And.intro b0 b1)
 have I0 : Hid (DivInv A b 0 A 0 0) := ⟨by simp, A0, A1, by omega, by omega, by omega, by omega⟩
 clear A0 A1 b0 b1
 rcases hbig with g | ⟨g, g2⟩
 all_goals
  go_enter Tryz.func109, Tryz.ntmps109
  go_wp2
  obtain ⟨W0, hW0⟩ : ∃ W0, W0 = (((((w.alloc (Obj.cells #[Value.int IntKind.u64 (hiW A), Value.int IntKind.u64 (loW A)] 68)).alloc (Obj.cells #[Value.int IntKind.u64 (hiW b), Value.int IntKind.u64 (loW b)] 68)).alloc (Obj.cells #[Value.int IntKind.u64 0, Value.int IntKind.u64 0] 68)).alloc (Obj.cells #[Value.int IntKind.u64 0, Value.int IntKind.u64 0] 68)).alloc (Obj.cells #[Value.int IntKind.u64 0, Value.int IntKind.u64 0] 68)).alloc (Obj.cells #[Value.int IntKind.u64 0, Value.int IntKind.u64 0] 68) := ⟨_, rfl⟩
  rw [← hW0]
  have S0 := Lib.hid (DivSt.start w A b W0 hW0)
  clear hW0
  go_loopw [8] (fun i wr => ∃ n c Q R : Int, i = .int .i64 n ∧ n ≤ 128 ∧ Hid (DivInv A b n c Q R) ∧ Hid (DivSt w wr (hiW b) (loW b) c Q R)) (fun i _ => (128 - intOf i).toNat)
  case atStart => exact ⟨0, A, 0, 0, rfl, by omega, I0, S0⟩
  case round =>
   clear S0 I0
   obtain ⟨n, c, Q, R, rfl, hn, I, S⟩ := hrel
   have n0 : 0 ≤ n := I.out.n0
   obtain ⟨⟨_, a0, a1⟩, ⟨_, b0, b1⟩, ⟨_, p0, p1⟩, ⟨_, s0, s1⟩, ⟨_, q0, q1⟩, ⟨_, r0, r1⟩, ⟨fa0, fa1⟩, ⟨fp0, fp1⟩, ⟨fs0, fs1⟩, ⟨fq0, fq1⟩, ⟨fr0, fr1⟩, BW⟩ := S.out
   by_cases hlt : n < 128
   ·obtain ⟨e1, e2, e3, e4⟩ := div_words I.out.c0 I.out.c1 I.out.r0 (by have := I.out.r1; have := Hb.out.2; omega)
    obtain ⟨e5, e6, e7, e8, e9⟩ := dbl_words Q
    obtain ⟨X, hX⟩ : ∃ X, 2 * R + 2 * c / 340282366920938463463374607431768211456 = X := ⟨_, rfl⟩
    obtain ⟨C, hC⟩ : ∃ C, 2 * c % 340282366920938463463374607431768211456 = C := ⟨_, rfl⟩
    rw [hX] at e1 e2
    rw [hC] at e3 e4
    have X0 : 0 ≤ X := by have := I.out.c0; have := I.out.r0; omega
    have hov := over_word I.out.r0 (by have := I.out.r1; have := Hb.out.2; omega)
    have hX2 : X = 2 * R + 2 * c / 340282366920938463463374607431768211456 := hX.symm
    have c0 := I.out.c0
    have c1 := I.out.c1
    have Rb := I.out.r1
    have XB : X < 2 * R + 2 := by omega
    have XA : 2 * R ≤ X := by omega
    obtain ⟨XH, hXH⟩ : ∃ x, hiW X = x := ⟨_, rfl⟩
    obtain ⟨XL, hXL⟩ : ∃ x, loW X = x := ⟨_, rfl⟩
    obtain ⟨CH, hCH⟩ : ∃ x, hiW C = x := ⟨_, rfl⟩
    obtain ⟨CL, hCL⟩ : ∃ x, loW C = x := ⟨_, rfl⟩
    obtain ⟨QH, hQH⟩ : ∃ x, hiW (2 * Q) = x := ⟨_, rfl⟩
    obtain ⟨QL, hQL⟩ : ∃ x, loW (2 * Q) = x := ⟨_, rfl⟩
    obtain ⟨Q1, hQ1⟩ : ∃ x, loW (2 * Q + 1) = x := ⟨_, rfl⟩
    have CM := fun w => Lib.hid (refMinus_any X b w)
    obtain ⟨MH, hMH⟩ : ∃ x, hiW (X - b) = x := ⟨_, rfl⟩
    obtain ⟨ML, hML⟩ : ∃ x, loW (X - b) = x := ⟨_, rfl⟩
    simp only [hXH, hXL, hMH, hML] at CM
    rw [hXH] at e1; rw [hXL] at e2; rw [hCH] at e3; rw [hCL] at e4; rw [hQH] at e5 e7; rw [hQL] at e6 e8 e9; rw [hQ1] at e8 e9
    have wQ1 : IntKind.u64.wrap Q1 = Q1 := wrap_in (by rw [← hQ1]; exact (loW_bd _).1) (by rw [← hQ1]; exact (loW_bd _).2)
    have TM := Lib.hid (fun W2 hW2 => DivSt.mid (XH := XH) (XL := XL) (CH := CH) (CL := CL) (QH := QH) (QL := QL) S.out (W2 := W2) hW2)
    have HE := Lib.hid (And.intro hX (And.intro hC (And.intro hXH (And.intro hXL (And.intro hCH (And.intro hCL (And.intro hQH (And.intro hQL (And.intro hQ1 (And.intro hMH (And.intro hML e7)))))))))))
    have HX2 := Lib.hid hX2
    clear hX hC hXH hXL hCH hCL hQH hQL hQ1 hMH hML e7 hX2
    rcases hov with ⟨ho, h2⟩ | ⟨ho, h2⟩
    ·have hyes : b ≤ X := by have := Hb.out.2; omega
     have IY := Lib.hid (I.out.yes (by rw [← HX2.out]; exact hyes))
     clear S BW h2 c0 c1
     go_wp2_with (first
      | (go_at_call 74; (with_reducible refine ((CM _).out).mono ?_); rintro e w2 ⟨rfl, hb2⟩; have T2 := Lib.hid (DivMid.on (TM.out _ rfl) hb2); clear hb2; obtain ⟨_, _, _, _, ⟨_, u0, u1⟩, ⟨_, u2, u3⟩, _, _, _, ⟨u4, u5⟩, ⟨u6, u7⟩, _⟩ := T2.out))
     go_roundw
     case rel => exact ⟨n + 1, _, _, _, rfl, by omega, IY, DivMid.fin T2.out (by rw [HE.out.2.1]; exact HE.out.2.2.2.2.1.symm) (by rw [HE.out.2.1]; exact HE.out.2.2.2.2.2.1.symm) HE.out.2.2.2.2.2.2.2.2.2.2.2 HE.out.2.2.2.2.2.2.2.2.1.symm (by rw [← HX2.out]; exact HE.out.2.2.2.2.2.2.2.2.2.1.symm) (by rw [← HX2.out]; exact HE.out.2.2.2.2.2.2.2.2.2.2.1.symm)⟩
     case measure => simp [intOf]; omega
    ·have XS : X < 340282366920938463463374607431768211456 := by omega
     have hb2 := hiW_bd R
     have wi : IntKind.u64.wrap (hiW R * 2) = hiW R * 2 := wrap_in (by omega) (by omega)
     have e1' : IntKind.u64.wrap (hiW R * 2 + loW R / 9223372036854775808) = XH := by rw [← e1, wi]
     have lb := loW_bd R
     have e1'' : hiW R * 2 + loW R / 9223372036854775808 = XH := by rw [← e1']; exact (wrap_in (by omega) (by omega)).symm
     have wXH : IntKind.u64.wrap XH = XH := by rw [← e1'']; exact wrap_in (by omega) (by omega)
     clear wi lb hb2
     have CL' := fun w => Lib.hid (less_any X b w X0 XS (by have := Hb.out.1; omega) Hb.out.2)
     simp only [HE.out.2.2.1, HE.out.2.2.2.1] at CL'
     clear S BW h2 c0 c1 XS
     by_cases hyes : b ≤ X
     ·have IY := Lib.hid (I.out.yes (by rw [← HX2.out]; exact hyes))
      have hd : decide (X < b) = false := by simp; omega
      simp only [hd] at CL'
      go_wp2_with (first
       | (go_at_call 73; (with_reducible refine ((CL' _).out).mono ?_); rintro e w1 ⟨rfl, hb1⟩; have T1 := Lib.hid (DivMid.on (TM.out _ rfl) hb1); clear hb1; obtain ⟨_, ⟨_, x0, x1⟩, _, _, _, ⟨_, x2, x3⟩, _⟩ := T1.out)
       | (go_at_call 74; (with_reducible refine ((CM _).out).mono ?_); rintro e w2 ⟨rfl, hb2⟩; have T2 := Lib.hid (DivMid.on T1.out hb2); clear hb2; obtain ⟨_, _, _, _, ⟨_, u0, u1⟩, ⟨_, u2, u3⟩, _, _, _, ⟨u4, u5⟩, ⟨u6, u7⟩, _⟩ := T2.out))
      go_roundw
      case rel => exact ⟨n + 1, _, _, _, rfl, by omega, IY, DivMid.fin T2.out (by rw [HE.out.2.1]; exact HE.out.2.2.2.2.1.symm) (by rw [HE.out.2.1]; exact HE.out.2.2.2.2.2.1.symm) HE.out.2.2.2.2.2.2.2.2.2.2.2 HE.out.2.2.2.2.2.2.2.2.1.symm (by rw [← HX2.out]; exact HE.out.2.2.2.2.2.2.2.2.2.1.symm) (by rw [← HX2.out]; exact HE.out.2.2.2.2.2.2.2.2.2.2.1.symm)⟩
      case measure => simp [intOf]; omega
     ·have IN := Lib.hid (I.out.no (by rw [← HX2.out]; exact hyes))
      have hd : decide (X < b) = true := by simp; omega
      simp only [hd] at CL'
      go_wp2_with (first
       | (go_at_call 73; (with_reducible refine ((CL' _).out).mono ?_); rintro e w1 ⟨rfl, hb1⟩; have T1 := Lib.hid (DivMid.on (TM.out _ rfl) hb1); clear hb1))
      go_roundw
      case rel => exact ⟨n + 1, _, _, _, rfl, by omega, IN, DivMid.fin0 T1.out (by rw [HE.out.2.1]; exact HE.out.2.2.2.2.1.symm) (by rw [HE.out.2.1]; exact HE.out.2.2.2.2.2.1.symm) HE.out.2.2.2.2.2.2.1.symm HE.out.2.2.2.2.2.2.2.1.symm (by rw [← HX2.out]; exact HE.out.2.2.1.symm) (by rw [← HX2.out]; exact HE.out.2.2.2.1.symm)⟩
      case measure => simp [intOf]; omega
   ·obtain rfl : n = 128 := by omega
    obtain ⟨z1, z2⟩ := I.out.last HA.out
    have HZ := Lib.hid (And.intro z1 z2)
    clear z1 z2
    have hB := Lib.hid BW
    go_wp2
    go_region_held3 (fun WX => WX.cell? ⟨w.heap.size + 1 + 1 + 1 + 1, 0, none⟩ = some (.int .u64 (hiW Q)) ∧ WX.cell? ⟨w.heap.size + 1 + 1 + 1 + 1, 1, none⟩ = some (.int .u64 (loW Q)) ∧ WX.cell? ⟨w.heap.size + 1 + 1 + 1 + 1 + 1, 0, none⟩ = some (.int .u64 (hiW R)) ∧ WX.cell? ⟨w.heap.size + 1 + 1 + 1 + 1 + 1, 1, none⟩ = some (.int .u64 (loW R))) (go_keep) (fail)
    all_goals
     go_wp2
     refine bodyPost_ret (by simp [results, Tryz.results109, go_sem, p0, p1, s0, s1]; try rfl) rfl ?_
     exact ⟨by rw [← HZ.out.1, ← HZ.out.2], (by repeat' (first | (with_reducible exact Below.refl _ _) | (with_reducible assumption) | (with_reducible refine Below.alloc ?_ ?_ _) | (with_reducible refine below_drew ?_ _) | (with_reducible refine Below.drew ?_) | (with_reducible refine Below.setCell ?_ ?_ _) | go_size))⟩

end Go.Proofs.YtggpdhdbeokkcaaGreat
