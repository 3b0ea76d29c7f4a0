/- Layer 10: awake. -/
import Derived.Test.YtcghjjfpjiacfaaDoorKW
namespace Go.Proofs.YtcghjjfpjiacfaaDoor
open Go.ChangeShapes Go.WideShapes Go.ChangeAt Go.RowKit Go.Joins Go.Deep Go.Shelf
set_option linter.unusedVariables false

theorem exEx_any (w : World) : Calls Tryd.prog 56 #[] w fun e w' => (∃ s : Sys, e = .returned (.agg #[.slice s.ba 1 1, .slice s.ra 1 1]) ∧ s.At w' ∧ IsEx s) ∧ Below w.heap.size w w' :=
  (example_any w).mono fun e w' ⟨⟨s, h1, h2, h3⟩, hb⟩ => ⟨⟨s, by rw [h1, h3.nb, h3.bc, h3.nr, h3.rc], h2, h3⟩, hb⟩
theorem exMatrix_any {s : Sys} (h : IsEx s) (w : World) (hs : s.At w) : Calls Tryd.prog 22 #[.agg #[.slice s.ba 1 1, .slice s.ra 1 1]] w fun e w' => ∃ b g, e = .returned (.tuple #[.slice (some ⟨b, 0, none⟩) 1 1, .int .i64 0]) ∧ (b < w'.heap.size ∧ w'.cell? ⟨b, 0, none⟩ = some (.slice (some ⟨g, 0, none⟩) 1 1) ∧ g < w'.heap.size ∧ w'.cell? ⟨g, 0, none⟩ = some (.int .i64 4)) ∧ Below w.heap.size w w' := by
  have := kMatrix_ok s w hs (ex_sm h) (ex_rg h) (ex_ok h)
  rw [h.nb, h.nr, h.bc, h.rc] at this
  exact this.mono fun e w' ⟨b, G, h1, h2, h3⟩ => ⟨b, G 0, h1, ⟨h2.hb, h2.top 0 (by omega), (h2.row 0 (by omega)).2.1, by have := h2.cell 0 0 (by omega) (by omega); rw [ex_mtx h] at this; exact this⟩, h3⟩
theorem exHauled_any {s : Sys} (h : IsEx s) (w : World) (hs : s.At w) : Calls Tryd.prog 25 #[.agg #[.slice s.ba 1 1, .slice s.ra 1 1]] w fun e w' => ∃ g, e = .returned (.tuple #[.slice (some ⟨g, 0, none⟩) 1 1, .int .i64 0]) ∧ (g < w'.heap.size ∧ w'.cell? ⟨g, 0, none⟩ = some (.int .i64 1)) ∧ Below w.heap.size w w' := by
  have := kHauled_ok s w hs (ex_sm h) (ex_rg h) (ex_ok h)
  rw [h.nb, h.nr, h.bc, h.rc] at this
  exact this.mono fun e w' ⟨g, h1, h2, h3⟩ => ⟨g, h1, ⟨h2.hb, by have := h2.cell 0 (by omega); rw [h.rh] at this; exact this⟩, h3⟩
theorem exText_any {s : Sys} (h : IsEx s) (w : World) (B : Nat) (hBw : B ≤ w.heap.size) (hT : Pow10 B w) (hs : s.At w) : Calls Tryd.prog 57 #[.agg #[.slice s.ba 1 1, .slice s.ra 1 1]] w fun e w' => e = .returned (.tuple #[.string (⟨#[98, 108, 111, 99, 107, 32, 98, 32, 51, 48, 48, 10, 114, 111, 112, 101, 32, 114, 32, 104, 97, 117, 108, 101, 100, 32, 45, 32, 48, 32, 49, 32, 98, 32, 50, 32, 49, 32, 45, 32, 48, 32, 49, 32, 98, 32, 50, 32, 49, 32, 45, 32, 48, 32, 49, 10]⟩ : ByteArray), .int .i64 0]) ∧ Below w.heap.size w w' := by
  have := kText_ok s w B hBw hT hs (ex_sm h) (ex_rg h) (ex_ok h)
  rw [h.nb, h.nr, h.bc, h.rc, ex_txt h] at this
  exact this
theorem exValid_any {s : Sys} (h : IsEx s) (w : World) (hs : s.At w) : Calls Tryd.prog 18 #[.agg #[.slice s.ba 1 1, .slice s.ra 1 1]] w fun e w' => e = .returned (.bool true) ∧ Below w.heap.size w w' := by
  have := kValid_any s w hs (ex_sm h) (ex_rg h) true ⟨fun _ => ex_ok h, fun _ => rfl⟩
  unfold Sys.val at this
  rw [h.nb, h.nr, h.bc, h.rc] at this
  exact this
theorem kdrewN (w : World) : ∀ q, Below w.heap.size w (w.drewN q)
  | 0 => Below.refl _ _
  | q + 1 => below_on (kdrewN w q) (Below.drew (Below.refl _ _))
theorem eq1_any (a b : Nat) (x : Int) (w : World) (ha : w.cell? ⟨a, 0, none⟩ = some (.int .i64 x)) (hb : w.cell? ⟨b, 0, none⟩ = some (.int .i64 x)) :
    Calls Tryd.prog 28 #[.slice (some ⟨a, 0, none⟩) 1 1, .slice (some ⟨b, 0, none⟩) 1 1] w fun e w' => e = .returned (.bool true) ∧ Below w.heap.size w w' := by
  refine (Tryd.slices_Equal_int a 0 1 1 b 0 1 1 [x] [x] w (by simp) (by simp) (by omega) (by omega) (fun j hj => ?_) (fun j hj => ?_)).mono fun e w' ⟨h1, q, h2⟩ => ⟨by rw [h1]; simp, by rw [h2]; exact kdrewN w q⟩
  · obtain rfl : j = 0 := by simp at hj; omega
    exact ha
  · obtain rfl : j = 0 := by simp at hj; omega
    exact hb
set_option maxRecDepth 100000 in
set_option maxHeartbeats 16000000 in
theorem kawake_any (w : World) (B : Nat) (hBw : B ≤ w.heap.size) (hT : Pow10 B w) : Calls Tryd.prog 16 #[] w fun e w' => e = .returned (.bool true) ∧ Below w.heap.size w w' := by
  have HT := Lib.hid (And.intro hBw hT)
  have CE := fun W => Lib.hid (exEx_any W)
  have CM : Hid (∀ (s : Sys) W, IsEx s → s.At W → Calls Tryd.prog 22 #[.agg #[.slice s.ba 1 1, .slice s.ra 1 1]] W fun e w' => ∃ b g, e = .returned (.tuple #[.slice (some ⟨b, 0, none⟩) 1 1, .int .i64 0]) ∧ (b < w'.heap.size ∧ w'.cell? ⟨b, 0, none⟩ = some (.slice (some ⟨g, 0, none⟩) 1 1) ∧ g < w'.heap.size ∧ w'.cell? ⟨g, 0, none⟩ = some (.int .i64 4)) ∧ Below W.heap.size W w') := fun s W h hs => exMatrix_any h W hs
  have CH : Hid (∀ (s : Sys) W, IsEx s → s.At W → Calls Tryd.prog 25 #[.agg #[.slice s.ba 1 1, .slice s.ra 1 1]] W fun e w' => ∃ g, e = .returned (.tuple #[.slice (some ⟨g, 0, none⟩) 1 1, .int .i64 0]) ∧ (g < w'.heap.size ∧ w'.cell? ⟨g, 0, none⟩ = some (.int .i64 1)) ∧ Below W.heap.size W w') := fun s W h hs => exHauled_any h W hs
  have CT : Hid (∀ (s : Sys) W, IsEx s → s.At W → Below w.heap.size w W → Calls Tryd.prog 57 #[.agg #[.slice s.ba 1 1, .slice s.ra 1 1]] W fun e w' => e = .returned (.tuple #[.string (⟨#[98, 108, 111, 99, 107, 32, 98, 32, 51, 48, 48, 10, 114, 111, 112, 101, 32, 114, 32, 104, 97, 117, 108, 101, 100, 32, 45, 32, 48, 32, 49, 32, 98, 32, 50, 32, 49, 32, 45, 32, 48, 32, 49, 32, 98, 32, 50, 32, 49, 32, 45, 32, 48, 32, 49, 10]⟩ : ByteArray), .int .i64 0]) ∧ Below W.heap.size W w') := fun s W h hs hW => exText_any h W B (Nat.le_trans hBw hW.size) (kpow_on hT (hW.mono hBw)) hs
  have CV : Hid (∀ (s : Sys) W, IsEx s → s.At W → Calls Tryd.prog 18 #[.agg #[.slice s.ba 1 1, .slice s.ra 1 1]] W fun e w' => e = .returned (.bool true) ∧ Below W.heap.size W w') := fun s W h hs => exValid_any h W hs
  have CQ : Hid (∀ a b x W, W.cell? ⟨a, 0, none⟩ = some (.int .i64 x) → W.cell? ⟨b, 0, none⟩ = some (.int .i64 x) → Calls Tryd.prog 28 #[.slice (some ⟨a, 0, none⟩) 1 1, .slice (some ⟨b, 0, none⟩) 1 1] W fun e w' => e = .returned (.bool true) ∧ Below W.heap.size W w') := fun a b x W ha hb => eq1_any a b x W ha hb
  clear hBw hT
  go_enter Tryd.func16, Tryd.ntmps16
  go_upto_region 2 with (first
    | (go_at_call 56; (with_reducible refine ((CE _).out.mono ?_)); rintro e w1 ⟨⟨s1, rfl, hat1, hex1⟩, hb1⟩; have H1 := Lib.hid (And.intro hex1 (And.intro hat1 hb1)); clear hat1 hex1 hb1)
    | (go_at_call 22; (with_reducible refine ((CM.out _ _ H1.out.1 H1.out.2.1).mono ?_)); rintro e w2 ⟨mb, mg, rfl, hm, hb2⟩; have H2 := Lib.hid (And.intro hm (below_on H1.out.2.2 hb2)); clear hm hb2))
  go_upto_region 3 with (first
    | (go_at_call 56; (with_reducible refine ((CE _).out.mono ?_)); rintro e w3 ⟨⟨s3, rfl, hat3, hex3⟩, hb3⟩; have H3 := Lib.hid (And.intro hex3 (And.intro hat3 hb3)); clear hat3 hex3 hb3)
    | (go_at_call 57; (with_reducible refine ((CT.out _ _ H3.out.1 H3.out.2.1 (below_on H2.out.2 H3.out.2.2)).mono ?_)); rintro e w4 ⟨rfl, hb4⟩; have H4 := Lib.hid (below_on H3.out.2.2 hb4); clear hb4))
  go_upto_region 4 with (first
    | (go_at_call 56; (with_reducible refine ((CE _).out.mono ?_)); rintro e w5 ⟨⟨s5, rfl, hat5, hex5⟩, hb5⟩; have H5 := Lib.hid (And.intro hex5 (And.intro hat5 (below_on H4.out hb5))); clear hat5 hex5 hb5)
    | (go_at_call 25; (with_reducible refine ((CH.out _ _ H5.out.1 H5.out.2.1).mono ?_)); rintro e w6 ⟨hg, rfl, hm, hb6⟩; have H6 := Lib.hid (And.intro hm (below_on H5.out.2.2 hb6)); clear hm hb6))
  go_wp2_with (first
    | (go_at_call 56; (with_reducible refine ((CE _).out.mono ?_)); rintro e w7 ⟨⟨s7, rfl, hat7, hex7⟩, hb7⟩; have H7 := Lib.hid (And.intro hex7 (And.intro hat7 hb7)); clear hat7 hex7 hb7)
    | (go_at_call 18; (with_reducible refine ((CV.out _ _ H7.out.1 H7.out.2.1).mono ?_)); rintro e w8 ⟨rfl, hb8⟩
       have B8 := Lib.hid (below_on H7.out.2.2 hb8)
       have B28 := Lib.hid (below_on H6.out.2 B8.out)
       have m0 := (B28.out.cell (p := ⟨mb, 0, none⟩) H2.out.1.1).trans H2.out.1.2.1
       have m1 := (B28.out.cell (p := ⟨mg, 0, none⟩) H2.out.1.2.2.1).trans H2.out.1.2.2.2
       have ml := Nat.lt_of_lt_of_le H2.out.1.2.2.1 B28.out.size
       have n0 := (B8.out.cell (p := ⟨hg, 0, none⟩) H6.out.1.1).trans H6.out.1.2
       have nl := Nat.lt_of_lt_of_le H6.out.1.1 B8.out.size
       have HF := Lib.hid (below_on H2.out.2 B28.out)
       have A8 : Below w8.heap.size w8 (w8.alloc (Obj.cells #[Value.int .i64 4] 3)) := (Below.refl _ _).alloc (Nat.le_refl _) _
       have E1 := Lib.hid (CQ.out mg w8.heap.size 4 (w8.alloc (Obj.cells #[Value.int .i64 4] 3)) ((A8.cell (p := ⟨mg, 0, none⟩) ml).trans m1) (by simp))
       have HA8 := Lib.hid (And.intro A8 (And.intro n0 nl))
       clear hb8 A8 n0 nl)
    | (go_at_call 28; (with_reducible refine (E1.out.mono ?_)); rintro e w9 ⟨rfl, hb9⟩
       have B9 := Lib.hid (below_on HA8.out.1 hb9)
       have A9 : Below w9.heap.size w9 (w9.alloc (Obj.cells #[Value.int .i64 1] 3)) := (Below.refl _ _).alloc (Nat.le_refl _) _
       have E2 := Lib.hid (CQ.out hg w9.heap.size 1 (w9.alloc (Obj.cells #[Value.int .i64 1] 3)) (((below_on B9.out A9).cell (p := ⟨hg, 0, none⟩) HA8.out.2.2).trans HA8.out.2.1) (by simp))
       have HA9 := Lib.hid (below_on (below_on HF.out B9.out) A9)
       clear hb9 A9)
    | (go_at_call 28; (with_reducible refine (E2.out.mono ?_)); rintro e w10 ⟨rfl, hb10⟩; have HF10 := Lib.hid (below_on HA9.out hb10); clear hb10))
  go_ret
  exact ⟨rfl, HF10.out⟩
end Go.Proofs.YtcghjjfpjiacfaaDoor
