/- Layer 2: the reference's Parse, at every text. -/
import Derived.Test.YtfcplndfoboaaaaDoorRParR
namespace Go.Proofs.YtfcplndfoboaaaaDoor
set_option linter.unusedVariables false
open Go.RowKit Go.Shelf

set_option maxRecDepth 100000 in
set_option maxHeartbeats 4000000 in
theorem refParse_nil (w : World) :
    Calls Tryd.prog 14 #[.string ⟨#[]⟩] w fun e w' => e = .returned (.tuple #[.agg #[.int .i64 0, .int .i64 0], .bool false]) ∧ Below w.heap.size w w' := by
  have N1 := fun w => Lib.hid (refNumber_any ByteArray.empty w 0 false rfl)
  have ex : (⟨#[]⟩ : ByteArray).extract 0 0 = ⟨#[]⟩ := rfl
  have ez : (⟨#[]⟩ : ByteArray).size = 0 := rfl
  go_enter Tryd.func14, Tryd.ntmps14
  go_wp2_with fail
  have S0 := Lib.hid (PrS.new w)
  go_loopg [6, 7] 0 (fun g s6 s7 wx => s7 = .int .i64 0 ∧ s6 = .int .i64 0 ∧ g = 0 ∧ Hid (PrS w wx))
  case atStart => exact ⟨rfl, rfl, rfl, S0⟩
  case round =>
    clear S0
    obtain ⟨rfl, rfl, rfl, S⟩ := hrel
    rename World => W1
    obtain ⟨_, _, B0⟩ := S.out
    clear B0
    go_wp2_with fail
    (with_reducible refine ((N1 _).out).mono ?_)
    rintro e w1 ⟨rfl, rfl⟩
    have A1 := Lib.hid (PrA.new S.out 0 1)
    obtain ⟨⟨_, r0, r1⟩, ⟨f0, f1⟩, B⟩ := A1.out.1
    have HB := Lib.hid B
    clear B
    go_wp2_with fail
    obtain ⟨_, r8, r9⟩ := Blk.set (x := .int .i64 0) (y := .int .i64 0) A1.out.1.1
    refine bodyPost_ret (by simp [results, Tryd.results14, go_sem, r8, r9]; try rfl) rfl ?_
    have B := HB.out
    exact ⟨rfl, (by repeat' (first | (with_reducible exact Below.refl _ _) | (with_reducible assumption) | (with_reducible refine Below.alloc ?_ ?_ _) | (with_reducible refine below_drew ?_ _) | (with_reducible refine Below.drew ?_) | (with_reducible refine Below.setCell ?_ ?_ _) | go_size))⟩

theorem parR_eq (s : List UInt8) : parR s = if (numP s).2 = true ∧ (denP s).2 = true ∧ vB (signP s) (denP s).1 = true ∧ txt (signP s) (denP s).1 = s then (signP s, (denP s).1, true) else (0, 0, false) := by
  unfold parR parP
  split
  · rename_i g
    split at g
    · injection g with g; injection g with g1 g2; rw [if_pos (by assumption), g1, g2]
    · cases g
  · rename_i g
    split at g
    · cases g
    · rw [if_neg (by assumption)]
theorem refParse_any (s : ByteArray) (hs : s.size ≤ 200) (x y : Int) (ok : Bool) (h : parR s.data.toList = (x, y, ok)) (w : World) :
    Calls Tryd.prog 14 #[.string s] w fun e w' => e = .returned (.tuple #[.agg #[.int .i64 x, .int .i64 y], .bool ok]) ∧ Below w.heap.size w w' := by
  have ls : s.data.toList.length = s.size := by simp
  by_cases h0 : s.size = 0
  · have e : s = ⟨#[]⟩ := by
      apply Go.WideShapes.bytes_inj
      have : s.data.toList = [] := List.eq_nil_of_length_eq_zero (by omega)
      rw [this]
    subst e
    obtain ⟨c1, c2, c3⟩ := threeB (show ((0 : Int), (0 : Int), false) = (x, y, ok) from h)
    subst c1; subst c2; subst c3
    exact refParse_nil w
  rw [parR_eq] at h
  have hh : s.data.toList = s[0] :: s.data.toList.drop 1 := by
    have := num_byte s 0 (by omega)
    rwa [List.drop_zero] at this
  by_cases hc : s[0].toNat = 45
  · have hc2 : s[0] = 45 := UInt8.toNat_inj.1 hc
    have hd : s.data.toList.head? = some 45 := by rw [hh, hc2]; rfl
    have hr : restS s.data.toList = (s.extract 1 s.size).data.toList := by
      unfold restS
      rw [if_pos hd, Lib.extract_to_end, List.drop_one]
    have e1 : (if slashAt (restS s.data.toList) < (s.extract 1 s.size).size then numT ((s.extract 1 s.size).data.toList.drop (slashAt (restS s.data.toList) + 1)) else (1, true)) = denP s.data.toList := by
      unfold denP; rw [hr]; simp
    refine refParse_neg s hs (s.extract 1 s.size) rfl (by omega) hc (slashAt (restS s.data.toList)) (by rw [hr]) (numP s.data.toList).1 (numP s.data.toList).2 (by unfold numP; rw [hr]) (denP s.data.toList).1 (denP s.data.toList).2 e1 (signP s.data.toList) (by unfold signP; rw [if_pos hd]; omega) x y ok h w
  · have hc2 : s[0] ≠ 45 := fun e => hc (by rw [e]; rfl)
    have hd : ¬ s.data.toList.head? = some 45 := by rw [hh]; simpa using hc2
    have hr : restS s.data.toList = s.data.toList := by
      unfold restS
      rw [if_neg hd]
    have es : signP s.data.toList = (numP s.data.toList).1 := by unfold signP; rw [if_neg hd]
    rw [es] at h
    have e1 : (if slashAt (restS s.data.toList) < s.size then numT (s.data.toList.drop (slashAt (restS s.data.toList) + 1)) else (1, true)) = denP s.data.toList := by
      unfold denP; rw [hr]; simp
    refine refParse_pos s hs (by omega) hc (slashAt (restS s.data.toList)) (by rw [hr]) (numP s.data.toList).1 (numP s.data.toList).2 (by unfold numP; rw [hr]) (denP s.data.toList).1 (denP s.data.toList).2 e1 x y ok h w

end Go.Proofs.YtfcplndfoboaaaaDoor
