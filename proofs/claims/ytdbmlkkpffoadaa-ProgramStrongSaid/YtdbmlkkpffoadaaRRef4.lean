/- The reference of layer 2: the quotient and the remainder of two magnitudes: the loop. -/
import Derived.Test.YtdbmlkkpffoadaaRRef3
namespace Go.Proofs.Ytdbmlkkpffoadaa
set_option linter.unusedVariables false
open Go.RowKit Go.Shelf

def DivMid (w W : World) (B0 B1 CH CL QH QL XH XL : Int) : Prop := Blk W (w.heap.size) (.int .u64 CH) (.int .u64 CL) ∧ Blk W (w.heap.size + 1) (.int .u64 B0) (.int .u64 B1) ∧ Blk W (w.heap.size + 1 + 1) (.int .u64 0) (.int .u64 0) ∧ Blk W (w.heap.size + 1 + 1 + 1) (.int .u64 0) (.int .u64 0) ∧ Blk W (w.heap.size + 1 + 1 + 1 + 1) (.int .u64 QH) (.int .u64 QL) ∧ Blk W (w.heap.size + 1 + 1 + 1 + 1 + 1) (.int .u64 XH) (.int .u64 XL) ∧ Frz W (w.heap.size) ∧ Frz W (w.heap.size + 1 + 1) ∧ Frz W (w.heap.size + 1 + 1 + 1) ∧ Frz W (w.heap.size + 1 + 1 + 1 + 1) ∧ Frz W (w.heap.size + 1 + 1 + 1 + 1 + 1) ∧ Below w.heap.size w W
theorem DivMid.on {w W W2 : World} {B0 B1 CH CL QH QL XH XL : Int} (h : DivMid w W B0 B1 CH CL QH QL XH XL) (hb : Below W.heap.size W W2) : DivMid w W2 B0 B1 CH CL QH QL XH XL := by
  obtain ⟨ha, hB, hp, hs, hq, hr, fa, fp, fs, fq, fr, B⟩ := h
  exact ⟨ha.on hb, hB.on hb, hp.on hb, hs.on hb, hq.on hb, hr.on hb, fa.on ha.1 hb, fp.on hp.1 hb, fs.on hs.1 hb, fq.on hq.1 hb, fr.on hr.1 hb, below_on B hb⟩
theorem DivMid.fin {w W : World} {b c' Q' R' CH CL QH QL XH XL MH ML Q1 : Int} (h : DivMid w W (hiW b) (loW b) CH CL QH QL XH XL) (h1 : CH = hiW c') (h2 : CL = loW c') (h3 : QH = hiW Q') (h4 : Q1 = loW Q') (h5 : MH = hiW R') (h6 : ML = loW R') :
    DivSt w (((W.setCell ⟨w.heap.size + 1 + 1 + 1 + 1 + 1, 0, none⟩ (.int .u64 MH)).setCell ⟨w.heap.size + 1 + 1 + 1 + 1 + 1, 1, none⟩ (.int .u64 ML)).setCell ⟨w.heap.size + 1 + 1 + 1 + 1, 1, none⟩ (.int .u64 Q1)) (hiW b) (loW b) c' Q' R' := by
  obtain ⟨ha, hb, hp, hs, hq, hr, fa, fp, fs, fq, fr, B⟩ := h
  unfold DivSt
  rw [← h1, ← h2, ← h3, ← h4, ← h5, ← h6]
  exact ⟨(ha.far (by omega)).far1 (by omega), (hb.far (by omega)).far1 (by omega), (hp.far (by omega)).far1 (by omega), (hs.far (by omega)).far1 (by omega), (hq.far (by omega)).set1, (hr.set).far1 (by omega), fa.set.set1, fp.set.set1, fs.set.set1, fq.set.set1, fr.set.set1, ((B.setCell (by simp; omega) _).setCell (by simp; omega) _).setCell (by simp; omega) _⟩
theorem DivMid.fin0 {w W : World} {b c' Q' R' CH CL QH QL XH XL : Int} (h : DivMid w W (hiW b) (loW b) CH CL QH QL XH XL) (h1 : CH = hiW c') (h2 : CL = loW c') (h3 : QH = hiW Q') (h4 : QL = loW Q') (h5 : XH = hiW R') (h6 : XL = loW R') :
    DivSt w W (hiW b) (loW b) c' Q' R' := by
  unfold DivSt
  rw [← h1, ← h2, ← h3, ← h4, ← h5, ← h6]
  exact h

end Go.Proofs.Ytdbmlkkpffoadaa
