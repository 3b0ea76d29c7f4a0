/- Layer 10: the chapter's example. -/
import Derived.Test.YtcghjjfpjiacfaaDoorKR5
namespace Go.Proofs.YtcghjjfpjiacfaaDoor
open Go.ChangeShapes Go.WideShapes Go.ChangeAt Go.RowKit Go.Joins Go.Deep Go.Shelf
set_option linter.unusedVariables false

theorem kOne_any (w : World) : Calls Tryd.prog 38 #[] w fun e w' => e = .returned (.agg #[.int .i64 1, .int .i64 1]) ∧ Below w.heap.size w w' := by
  go_enter Tryd.func38, Tryd.ntmps38
  go_wp2
  go_returns
  exact ⟨rfl, by go_grown⟩
def exH (i : Nat) : Hld := if i % 2 = 1 then ⟨⟨#[98]⟩, 2, 1, 1⟩ else ⟨ByteArray.empty, 0, 1, 1⟩
/-- The chapter's example. -/
structure IsEx (s : Sys) : Prop where
  nb : s.nb = 1
  bc : s.bc = 1
  bn : s.bn 0 = ⟨#[98]⟩
  bw : s.bw 0 = 300
  nr : s.nr = 1
  rc : s.rc = 1
  rn : (s.R 0).name = ⟨#[114]⟩
  rh : (s.R 0).hauled = true
  n : (s.R 0).n = 5
  hc : (s.R 0).hc = 5
  hs : (s.R 0).hs = exH
set_option maxRecDepth 100000 in
set_option maxHeartbeats 16000000 in
theorem example_any (w : World) : Calls Tryd.prog 56 #[] w fun e w' => (∃ s : Sys, e = .returned (.agg #[.slice s.ba s.nb s.bc, .slice s.ra s.nr s.rc]) ∧ s.At w' ∧ IsEx s) ∧ Below w.heap.size w w' := by
  have CO := fun W => Lib.hid (kOne_any W)
  obtain ⟨W0, hW0⟩ : ∃ W, W = (w.alloc (Obj.cells #[Value.slice none 0 0, .slice none 0 0] 36)).alloc (Obj.cells #[Value.string (⟨#[98]⟩ : ByteArray), .int .i64 300] 55) := ⟨_, rfl⟩
  have hB0 : Below (w.alloc (Obj.cells #[Value.slice none 0 0, .slice none 0 0] 36)).heap.size (w.alloc (Obj.cells #[Value.slice none 0 0, .slice none 0 0] 36)) W0 := by rw [hW0]; exact (Below.refl _ _).alloc (Nat.le_refl _) _
  have hZ : C2 W0 w.heap.size (.slice none 0 0) (.slice none 0 0) := (C2.new w _ _ _).on hB0
  have hF : ∀ k, W0.frozen? ⟨w.heap.size, k, none⟩ = false := fun k => by rw [hW0]; simp
  have hK : C2 W0 (w.heap.size + 1) (.string (⟨#[98]⟩ : ByteArray)) (.int .i64 300) := by
    rw [hW0, show w.heap.size + 1 = (w.alloc (Obj.cells #[Value.slice none 0 0, .slice none 0 0] 36)).heap.size by simp]
    exact C2.new _ _ _ _
  have HZ := Lib.hid (And.intro hZ (And.intro hF hK))
  have HB := Lib.hid (below_on ((Below.refl w.heap.size w).alloc (Nat.le_refl _) _) hB0)
  have HW := Lib.hid hW0
  clear hW0 hB0 hZ hF hK
  go_enter Tryd.func56, Tryd.ntmps56
  go_wp2_with (go_at_call 38; (try rw [← HW.out]); (with_reducible refine ((CO _).out.mono ?_)); rintro e wx ⟨rfl, hbx⟩; (first | (have HI := Lib.hid (below_on HI.out hbx)) | (have HI := Lib.hid hbx)); clear hbx
               (try clear z0 z1 y0 y1 lz)
               have z0 := (HI.out.cell (p := ⟨w.heap.size, 0, none⟩) HZ.out.1.lt).trans HZ.out.1.c0
               have z1 := (HI.out.cell (p := ⟨w.heap.size, 1, none⟩) HZ.out.1.lt).trans HZ.out.1.c1
               have y0 := (HI.out.frozen (p := ⟨w.heap.size, 0, none⟩) HZ.out.1.lt).trans (HZ.out.2.1 0)
               have y1 := (HI.out.frozen (p := ⟨w.heap.size, 1, none⟩) HZ.out.1.lt).trans (HZ.out.2.1 1)
               have lz := Nat.lt_of_lt_of_le HZ.out.1.lt HI.out.size)
  obtain ⟨W1, hW1⟩ : ∃ W, W = (wx.setCell ⟨w.heap.size, 0, none⟩ (.slice (some ⟨w.heap.size + 1, 0, none⟩) 1 1)).setCell ⟨w.heap.size, 1, none⟩ (.slice (some ⟨wx.heap.size + 1, 0, none⟩) 1 1) := ⟨_, rfl⟩
  have hsz : W1.heap.size = wx.heap.size := by rw [hW1]; simp
  have r0 : W1.cell? ⟨w.heap.size, 0, none⟩ = some (.slice (some ⟨w.heap.size + 1, 0, none⟩) 1 1) := by
    rw [hW1, World.cell?_setCell_other _ _ _ _ (adr_ne (by decide))]
    exact World.cell?_setCell_same' _ _ _ (by rw [z0]; rfl)
  have r1 : W1.cell? ⟨w.heap.size, 1, none⟩ = some (.slice (some ⟨wx.heap.size + 1, 0, none⟩) 1 1) := by
    rw [hW1]
    exact World.cell?_setCell_same' _ _ _ (by rw [World.cell?_setCell_other _ _ _ _ (adr_ne (by decide)), z1]; rfl)
  have hKx := HZ.out.2.2.on HI.out
  have hK1 : C2 W1 (w.heap.size + 1) (.string (⟨#[98]⟩ : ByteArray)) (.int .i64 300) := by
    have hne : w.heap.size ≠ w.heap.size + 1 := by omega
    rw [hW1]
    exact ⟨by simpa using hKx.lt, by rw [World.cell?_setCell_far _ _ _ _ hne, World.cell?_setCell_far _ _ _ _ hne]; exact hKx.c0, by rw [World.cell?_setCell_far _ _ _ _ hne, World.cell?_setCell_far _ _ _ _ hne]; exact hKx.c1⟩
  have hB1 : Below w.heap.size w W1 := by rw [hW1]; exact ((below_on HB.out HI.out).setCell (Nat.le_refl _) _).setCell (Nat.le_refl _) _
  obtain ⟨n, hn⟩ : ∃ n, wx.heap.size = n := ⟨_, rfl⟩
  rw [← hW1]
  rw [hn] at hsz r1 lz ⊢
  obtain ⟨W2, hW2⟩ : ∃ W, W = W1.alloc (Obj.cells #[.string (⟨#[]⟩ : ByteArray), .int .i64 0, .int .i64 1, .int .i64 1, .string (⟨#[98]⟩ : ByteArray), .int .i64 2, .int .i64 1, .int .i64 1, .string (⟨#[]⟩ : ByteArray), .int .i64 0, .int .i64 1, .int .i64 1, .string (⟨#[98]⟩ : ByteArray), .int .i64 2, .int .i64 1, .int .i64 1, .string (⟨#[]⟩ : ByteArray), .int .i64 0, .int .i64 1, .int .i64 1] 64) := ⟨_, rfl⟩
  obtain ⟨W3, hW3⟩ : ∃ W, W = W2.alloc (Obj.cells #[.string (⟨#[114]⟩ : ByteArray), .slice (some ⟨n, 0, none⟩) 5 5, .bool true] 58) := ⟨_, rfl⟩
  have hB2 : Below W1.heap.size W1 W2 := by rw [hW2]; exact (Below.refl _ _).alloc (Nat.le_refl _) _
  have hB3 : Below W2.heap.size W2 W3 := by rw [hW3]; exact (Below.refl _ _).alloc (Nat.le_refl _) _
  have cb2 : CB W2 n [.string (⟨#[]⟩ : ByteArray), .int .i64 0, .int .i64 1, .int .i64 1, .string (⟨#[98]⟩ : ByteArray), .int .i64 2, .int .i64 1, .int .i64 1, .string (⟨#[]⟩ : ByteArray), .int .i64 0, .int .i64 1, .int .i64 1, .string (⟨#[98]⟩ : ByteArray), .int .i64 2, .int .i64 1, .int .i64 1, .string (⟨#[]⟩ : ByteArray), .int .i64 0, .int .i64 1, .int .i64 1] := by rw [hW2, ← hsz]; exact cb_new _ _ _
  have hs2 : W2.heap.size = n + 1 := by rw [hW2]; simp [hsz]
  have cb3 : CB W3 (n + 1) [.string (⟨#[114]⟩ : ByteArray), .slice (some ⟨n, 0, none⟩) 5 5, .bool true] := by rw [hW3, ← hs2]; exact cb_new _ _ _
  have hH : HolR W3 (some ⟨n, 0, none⟩) 5 exH := by
    refine HolR.on (W := W2) (fun _ => ⟨n, 0, rfl, cb2.lt, fun i hi => ?_⟩) hB3
    have : i = 0 ∨ i = 1 ∨ i = 2 ∨ i = 3 ∨ i = 4 := by omega
    rcases this with rfl | rfl | rfl | rfl | rfl
    · exact ⟨cb2.cell 0 _ rfl, cb2.cell 1 _ rfl, cb2.cell 2 _ rfl, cb2.cell 3 _ rfl⟩
    · exact ⟨cb2.cell 4 _ rfl, cb2.cell 5 _ rfl, cb2.cell 6 _ rfl, cb2.cell 7 _ rfl⟩
    · exact ⟨cb2.cell 8 _ rfl, cb2.cell 9 _ rfl, cb2.cell 10 _ rfl, cb2.cell 11 _ rfl⟩
    · exact ⟨cb2.cell 12 _ rfl, cb2.cell 13 _ rfl, cb2.cell 14 _ rfl, cb2.cell 15 _ rfl⟩
    · exact ⟨cb2.cell 16 _ rfl, cb2.cell 17 _ rfl, cb2.cell 18 _ rfl, cb2.cell 19 _ rfl⟩
  have hK3 := (hK1.on hB2).on hB3
  have hl1 : w.heap.size < W1.heap.size := by rw [hsz]; exact lz
  have q0 := (hB3.cell (p := ⟨w.heap.size, 0, none⟩) (Nat.lt_of_lt_of_le hl1 hB2.size)).trans ((hB2.cell (p := ⟨w.heap.size, 0, none⟩) hl1).trans r0)
  have q1 := (hB3.cell (p := ⟨w.heap.size, 1, none⟩) (Nat.lt_of_lt_of_le hl1 hB2.size)).trans ((hB2.cell (p := ⟨w.heap.size, 1, none⟩) hl1).trans r1)
  rw [← hW2, ← hW3]
  have HR : Hid (∃ s : Sys, Ending.returned (.agg #[.slice (some ⟨w.heap.size + 1, 0, none⟩) 1 1, .slice (some ⟨n + 1, 0, none⟩) 1 1]) = .returned (.agg #[.slice s.ba s.nb s.bc, .slice s.ra s.nr s.rc]) ∧ s.At W3 ∧ IsEx s) :=
    ⟨⟨some ⟨w.heap.size + 1, 0, none⟩, 1, 1, fun _ => ⟨#[98]⟩, fun _ => 300, some ⟨n + 1, 0, none⟩, 1, 1, fun _ => ⟨⟨#[114]⟩, some ⟨n, 0, none⟩, 5, 5, exH, true⟩⟩, rfl,
      ⟨fun _ => ⟨w.heap.size + 1, 0, rfl, hK3.lt, fun i hi => by
        have hi : i < 1 := hi
        obtain rfl : i = 0 := by omega
        exact ⟨hK3.c0, hK3.c1⟩⟩, ⟨fun _ => ⟨n + 1, 0, rfl, cb3.lt, fun i hi => by
        have hi : i < 1 := hi
        obtain rfl : i = 0 := by omega
        exact ⟨cb3.cell 0 _ rfl, cb3.cell 1 _ rfl, cb3.cell 2 _ rfl⟩⟩, fun k hk => hH⟩⟩, ⟨rfl, rfl, rfl, rfl, rfl, rfl, rfl, rfl, rfl, rfl, rfl⟩⟩
  have HF := Lib.hid (below_on (below_on hB1 hB2) hB3)
  clear hW1 hW2 hW3 hsz r0 r1 hKx hK1 hB1 hB2 hB3 cb2 cb3 hs2 hH hK3 hl1 z0 z1 y0 y1 lz hn HI HW HZ HB
  refine bodyPost_ret (by simp [results, Tryd.results56, go_sem, q0, q1]; try rfl) rfl ?_
  exact ⟨HR.out, HF.out⟩
end Go.Proofs.YtcghjjfpjiacfaaDoor
