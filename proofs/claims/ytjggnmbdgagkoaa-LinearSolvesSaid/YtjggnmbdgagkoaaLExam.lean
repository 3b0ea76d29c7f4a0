/- Layer 4: an integer as a fraction; rows of six cells. Layer 4: the examples of the chapter hold. -/
import Derived.Test.YtjggnmbdgagkoaaLNulls
import Derived.Test.YtjggnmbdgagkoaaRRow
import Derived.Test.YtjggnmbdgagkoaaREach
namespace Go.Proofs.Ytjggnmbdgagkoaa
set_option linter.unusedVariables false
open Go.RowKit Go.Shelf

theorem f_any (n : Int) (w : World) : Calls Try.prog 31 #[.int .i64 n] w fun e w' => e = .returned (.agg #[.int .i64 n, .int .i64 1]) ∧ Below w.heap.size w w' := by
  have hb1 : Below w.heap.size w (w.alloc (Obj.cells #[Value.int IntKind.i64 0, Value.int IntKind.i64 0] 45)) := (Below.refl _ _).alloc (Nat.le_refl _) _
  obtain ⟨W1, hW1⟩ : ∃ W, W = w.alloc (Obj.cells #[Value.int IntKind.i64 0, Value.int IntKind.i64 0] 45) := ⟨_, rfl⟩
  obtain ⟨rb, hrb⟩ : ∃ x, x = w.heap.size := ⟨_, rfl⟩
  have B1 : Blk W1 rb (.int .i64 0) (.int .i64 0) := by rw [hW1, hrb]; exact Blk.new _ _ _ _
  have F1 : Frz W1 rb := by rw [hW1, hrb]; exact Frz.new _ _ _ _
  go_enter Try.func31, Try.ntmps31
  go_upto_region 1 with fail
  rw [← hW1, ← hrb]
  rw [← hW1] at hb1
  have HX := Lib.hid hrb
  have B4 := Blk.set (x := .int .i64 n) (y := .int .i64 1) B1
  have HB4 := Lib.hid ((hb1.setCell (p := ⟨rb, 0, none⟩) (by show w.heap.size ≤ rb; rw [HX.out]; exact Nat.le_refl _) (.int .i64 n)).setCell (p := ⟨rb, 1, none⟩) (by show w.heap.size ≤ rb; rw [HX.out]; exact Nat.le_refl _) (.int .i64 1))
  have H4 := Lib.hid B4
  clear hW1 hrb B4 hb1
  obtain ⟨_, b0, b1⟩ := B1
  obtain ⟨f0, f1⟩ := F1
  go_wp2_with fail
  clear b0 b1 f0 f1
  generalize (W1.setCell ⟨rb, 0, none⟩ (.int .i64 n)).setCell ⟨rb, 1, none⟩ (.int .i64 1) = W4 at *
  have x0 := H4.out.2.1
  have x1 := H4.out.2.2
  (try simp only [Exit.inBlock, Exit.then])
  (first
    | refine bodyPost_ret (by simp [results, Try.results31, x0, x1, go_sem]; rfl) rfl ?_
    | refine bodyPost_ret (by simp [results, Try.results31, x0, x1, go_sem]) rfl ?_)
  exact ⟨rfl, HB4.out⟩

theorem row1 (W : World) (x : Value) (t : Nat) : Row (W.alloc (Obj.cells #[x] t)) W.heap.size [x] := by
  refine ⟨by simp, fun k hk => ?_⟩
  have : k = 0 := by simpa using hk
  subst this; simp [go_sem]
theorem row3 (W : World) (x y z : Value) (t : Nat) : Row (W.alloc (Obj.cells #[x, y, z] t)) W.heap.size [x, y, z] := by
  refine ⟨by simp, fun k hk => ?_⟩
  have : k = 0 ∨ k = 1 ∨ k = 2 := by simp at hk; omega
  rcases this with rfl | rfl | rfl <;> simp [go_sem]
theorem row6 (W : World) (x y z u v s : Value) (t : Nat) : Row (W.alloc (Obj.cells #[x, y, z, u, v, s] t)) W.heap.size [x, y, z, u, v, s] := by
  refine ⟨by simp, fun k hk => ?_⟩
  have : k = 0 ∨ k = 1 ∨ k = 2 ∨ k = 3 ∨ k = 4 ∨ k = 5 := by simp at hk; omega
  rcases this with rfl | rfl | rfl | rfl | rfl | rfl <;> simp [go_sem]
theorem Row.fr2 {W : World} {b : Nat} {x0 x1 y0 y1 : Int} (h : Row W b [.int .i64 x0, .int .i64 x1, .int .i64 y0, .int .i64 y1]) : FrL W (some ⟨b, 0, none⟩) [(x0, x1), (y0, y1)] := fun _ => by
  refine ⟨b, 0, rfl, h.1, fun k hk => ?_⟩
  have : k = 0 ∨ k = 1 := by simp at hk; omega
  rcases this with rfl | rfl
  · exact ⟨by simpa using h.2 0 (by simp), by simpa using h.2 1 (by simp)⟩
  · exact ⟨by simpa using h.2 2 (by simp), by simpa using h.2 3 (by simp)⟩
theorem Row.fr3 {W : World} {b : Nat} {x0 x1 y0 y1 z0 z1 : Int} (h : Row W b [.int .i64 x0, .int .i64 x1, .int .i64 y0, .int .i64 y1, .int .i64 z0, .int .i64 z1]) : FrL W (some ⟨b, 0, none⟩) [(x0, x1), (y0, y1), (z0, z1)] := fun _ => by
  refine ⟨b, 0, rfl, h.1, fun k hk => ?_⟩
  have : k = 0 ∨ k = 1 ∨ k = 2 := by simp at hk; omega
  rcases this with rfl | rfl | rfl
  · exact ⟨by simpa using h.2 0 (by simp), by simpa using h.2 1 (by simp)⟩
  · exact ⟨by simpa using h.2 2 (by simp), by simpa using h.2 3 (by simp)⟩
  · exact ⟨by simpa using h.2 4 (by simp), by simpa using h.2 5 (by simp)⟩

end Go.Proofs.Ytjggnmbdgagkoaa

namespace Go.Proofs.Ytjggnmbdgagkoaa
set_option linter.unusedVariables false
set_option linter.unusedSimpArgs false
open Go.RowKit Go.Shelf

def zE2 (x00 x01 x10 x11 : Int) : Nat → Nat → Int := fun i j => if i = 0 then (if j = 0 then x00 else x01) else (if j = 0 then x10 else x11)
theorem amat2 {W : World} {mb a0 a1 : Nat} {x00 x01 x10 x11 : Int} (h : Row W mb [.slice (some ⟨a0, 0, none⟩) 2 2, .slice (some ⟨a1, 0, none⟩) 2 2]) (h0 : Row W a0 [.int .i64 x00, .int .i64 x01]) (h1 : Row W a1 [.int .i64 x10, .int .i64 x11]) :
    AMat W (some ⟨mb, 0, none⟩) 2 (fun i => if i = 0 then some ⟨a0, 0, none⟩ else some ⟨a1, 0, none⟩) (fun _ => 2) (fun _ => 2) (zE2 x00 x01 x10 x11) := by
  refine ⟨fun _ => ⟨mb, 0, rfl, h.1, fun i hi => ?_⟩, fun i hi _ => ?_, fun i hi => by omega⟩
  · have : i = 0 ∨ i = 1 := by omega
    rcases this with rfl | rfl
    · simpa using h.2 0 (by simp)
    · simpa using h.2 1 (by simp)
  · have : i = 0 ∨ i = 1 := by omega
    rcases this with rfl | rfl
    · refine ⟨a0, 0, rfl, h0.1, fun j hj => ?_⟩
      have : j = 0 ∨ j = 1 := by omega
      rcases this with rfl | rfl
      · simpa [zE2] using h0.2 0 (by simp)
      · simpa [zE2] using h0.2 1 (by simp)
    · refine ⟨a1, 0, rfl, h1.1, fun j hj => ?_⟩
      have : j = 0 ∨ j = 1 := by omega
      rcases this with rfl | rfl
      · simpa [zE2] using h1.2 0 (by simp)
      · simpa [zE2] using h1.2 1 (by simp)
theorem vmp2 : vMP 2 (fun _ => 2) (zE2 2 1 1 (-1)) := ⟨by decide, by decide, by decide, by decide, fun i hi => ⟨rfl, fun j hj => by
  have hj' : j < 2 := hj
  have h1 : i = 0 ∨ i = 1 := by omega
  have h2 : j = 0 ∨ j = 1 := by omega
  rcases h1 with rfl | rfl <;> rcases h2 with rfl | rfl <;> simp [zE2]⟩⟩
def zE1 (x0 x1 x2 : Int) : Nat → Nat → Int := fun i j => if j = 0 then x0 else if j = 1 then x1 else x2
theorem amat1 {W : World} {mb a0 : Nat} {x0 x1 x2 : Int} (h : Row W mb [.slice (some ⟨a0, 0, none⟩) 3 3]) (h0 : Row W a0 [.int .i64 x0, .int .i64 x1, .int .i64 x2]) :
    AMat W (some ⟨mb, 0, none⟩) 1 (fun _ => some ⟨a0, 0, none⟩) (fun _ => 3) (fun _ => 3) (zE1 x0 x1 x2) := by
  refine ⟨fun _ => ⟨mb, 0, rfl, h.1, fun i hi => ?_⟩, fun i hi _ => ⟨a0, 0, rfl, h0.1, fun j hj => ?_⟩, fun i hi => by omega⟩
  · have : i = 0 := by omega
    subst this
    simpa using h.2 0 (by simp)
  · have : j = 0 ∨ j = 1 ∨ j = 2 := by omega
    rcases this with rfl | rfl | rfl
    · simpa [zE1] using h0.2 0 (by simp)
    · simpa [zE1] using h0.2 1 (by simp)
    · simpa [zE1] using h0.2 2 (by simp)
theorem vmp1 : vMP 1 (fun _ => 3) (zE1 1 2 3) := ⟨by decide, by decide, by decide, by decide, fun i hi => ⟨rfl, fun j hj => by
  have hj' : j < 3 := hj
  have h2 : j = 0 ∨ j = 1 ∨ j = 2 := by omega
  rcases h2 with rfl | rfl | rfl <;> simp [zE1]⟩⟩

theorem shF_mul (a D : Int) (hD : D ≠ 0) (a0 : -1152921504606846976 ≤ a) (a1 : a ≤ 1152921504606846976) : shF (a * D) D = (a, 1) := by
  unfold shF; rw [make_mul a D hD a0 a1]

theorem Solve_ex {W : World} {mb rg : Nat} {Ra : Nat → Option Addr} (hM : AMat W (some ⟨mb, 0, none⟩) 2 Ra (fun _ => 2) (fun _ => 2) (zE2 2 1 1 (-1))) (hr : Row W rg [.int .i64 5, .int .i64 1]) :
    Calls Try.prog 21 #[.slice (some ⟨mb, 0, none⟩) 2 2, .slice (some ⟨rg, 0, none⟩) 2 2] W fun e w' => Below W.heap.size W w' ∧ ∃ xb, e = .returned (.tuple #[.slice (some ⟨xb, 0, none⟩) 2 2, .int .i64 0]) ∧ FrL w' (some ⟨xb, 0, none⟩) [(2, 1), (1, 1)] := by
  have hR : IRow W (some ⟨rg, 0, none⟩) 2 (fun j => if j = 0 then 5 else 1) := fun _ => ⟨rg, 0, rfl, hr.1, fun j hj => by
    have : j = 0 ∨ j = 1 := by omega
    rcases this with rfl | rfl
    · simpa using hr.2 0 (by simp)
    · simpa using hr.2 1 (by simp)⟩
  have hw : wB 2 (fun j => if j = 0 then 5 else 1) 67108864 = true := by
    unfold wB
    refine decide_eq_true fun j hj => ?_
    show -67108864 ≤ (if j = 0 then (5 : Int) else 1) ∧ (if j = 0 then (5 : Int) else 1) ≤ 67108864
    split <;> omega
  refine (Solve_ok (some ⟨mb, 0, none⟩) 2 2 Ra (fun _ => 2) (fun _ => 2) (zE2 2 1 1 (-1)) (some ⟨rg, 0, none⟩) 2 _ W 2 rfl hM vmp2 hR hw (by omega) (by omega)).mono ?_
  rintro e w' ⟨hb, k, p, E, D, hF, hc⟩
  obtain ⟨h1, h2, h3, h4⟩ := sol_ex hF (by simp [extE, catF, zE2]) (by simp [extE, catF, zE2]) (by simp [extE, catF]) (by simp [extE, catF, zE2]) (by simp [extE, catF, zE2]) (by simp [extE, catF])
  refine ⟨hb, ?_⟩
  rcases hc with ⟨h, _⟩ | ⟨_, h, _⟩ | ⟨_, _, xb, he, hX⟩
  · exact absurd h h1
  · omega
  · refine ⟨xb, he, fun _ => ⟨xb, 0, rfl, hX.hb, fun i hi => ?_⟩⟩
    have e0 : shF (E 0 2) D = (2, 1) := by rw [h3]; exact shF_mul 2 D hF.nz (by omega) (by omega)
    have e1 : shF (E 1 2) D = (1, 1) := by rw [h4]; exact shF_mul 1 D hF.nz (by omega) (by omega)
    have : i = 0 ∨ i = 1 := by simp at hi; omega
    rcases this with rfl | rfl
    · have c0 := hX.c0 0 (by omega); have c1 := hX.c1 0 (by omega)
      rw [e0] at c0 c1
      exact ⟨by simpa using c0, by simpa using c1⟩
    · have c0 := hX.c0 1 (by omega); have c1 := hX.c1 1 (by omega)
      rw [e1] at c0 c1
      exact ⟨by simpa using c0, by simpa using c1⟩

theorem Det_ex {W : World} {mb : Nat} {Ra : Nat → Option Addr} (hM : AMat W (some ⟨mb, 0, none⟩) 2 Ra (fun _ => 2) (fun _ => 2) (zE2 2 1 1 (-1))) :
    Calls Try.prog 14 #[.slice (some ⟨mb, 0, none⟩) 2 2] W fun e w' => e = .returned (.tuple #[.int .i64 (-3), .int .i64 0]) ∧ Below W.heap.size W w' := by
  refine (Det_ok (some ⟨mb, 0, none⟩) 2 2 Ra (fun _ => 2) (fun _ => 2) (zE2 2 1 1 (-1)) W rfl hM vmp2).mono ?_
  rintro e w' ⟨hb, k, p, E, D, hF, rfl⟩
  rw [det_ex hF (by simp [zE2]) (by simp [zE2]) (by simp [zE2]) (by simp [zE2])]
  exact ⟨rfl, hb⟩

theorem Null_ex {W : World} {mb : Nat} {Ra : Nat → Option Addr} (hM : AMat W (some ⟨mb, 0, none⟩) 1 Ra (fun _ => 3) (fun _ => 3) (zE1 1 2 3)) :
    Calls Try.prog 22 #[.slice (some ⟨mb, 0, none⟩) 1 1] W fun e w' => Below W.heap.size W w' ∧ ∃ vb vc v1 v2, e = .returned (.tuple #[.slice (some ⟨vb, 0, none⟩) 2 vc, .int .i64 0]) ∧ Row w' vb [.slice (some ⟨v1, 0, none⟩) 3 3, .slice (some ⟨v2, 0, none⟩) 3 3] ∧
      FrL w' (some ⟨v1, 0, none⟩) [(-2, 1), (1, 1), (0, 1)] ∧ FrL w' (some ⟨v2, 0, none⟩) [(-3, 1), (0, 1), (1, 1)] := by
  refine (Null_ok (some ⟨mb, 0, none⟩) 1 1 Ra (fun _ => 3) (fun _ => 3) (zE1 1 2 3) W 3 rfl hM vmp1).mono ?_
  rintro e w' ⟨hb, k, p, E, D, V, vv, hF, rfl, hN⟩
  obtain ⟨rfl, h2, h3, h4⟩ := null_ex hF (by simp [zE1]) (by simp [zE1]) (by simp [zE1])
  have hf : frL 1 p 3 = [1, 2] := by
    unfold frL
    have n1 : ∀ x, 0 < x → ¬ ∃ l : Nat, l < 1 ∧ p l = x := fun x hx h => by
      obtain ⟨l, hl, e⟩ := h
      have : l = 0 := by omega
      subst this
      omega
    have d0 : decide (∃ l : Nat, l < 1 ∧ p l = 0) = true := decide_eq_true ⟨0, by omega, h2⟩
    have d1 : decide (∃ l : Nat, l < 1 ∧ p l = 1) = false := decide_eq_false (n1 1 (by omega))
    have d2 : decide (∃ l : Nat, l < 1 ∧ p l = 2) = false := decide_eq_false (n1 2 (by omega))
    rw [show List.range 3 = [0, 1, 2] by rfl]
    simp only [List.filter, d0, d1, d2, Bool.not_true, Bool.not_false]
  have e1 : shF (-(E 0 1)) D = (-2, 1) := by rw [h3]; exact shF_mul (-2) D hF.nz (by omega) (by omega)
  have e2 : shF (-(E 0 2)) D = (-3, 1) := by rw [h4]; exact shF_mul (-3) D hF.nz (by omega) (by omega)
  have hv1 := (hN.vec 1 (by rw [hf]; simp)).1
  have hv2 := (hN.vec 2 (by rw [hf]; simp)).1
  have ho := hN.own
  rw [hf] at ho
  refine ⟨hb, ?_⟩
  rcases ho.2 with ⟨_, h⟩ | ⟨g, cap, cur, rfl, _, hg, _⟩
  · simp at h
  · refine ⟨g, cap, V 1, V 2, rfl, ⟨(Array.getElem?_eq_some_iff.1 hg).1, fun i hi => ?_⟩, fun _ => ⟨V 1, 0, rfl, hv1.hb, fun i hi => ?_⟩, fun _ => ⟨V 2, 0, rfl, hv2.hb, fun i hi => ?_⟩⟩
    · have hc := ho.cells (g := g) rfl
      have : i = 0 ∨ i = 1 := by simp at hi; omega
      rcases this with rfl | rfl
      · simpa [Addr.add] using hc 0 (.slice (some ⟨V 1, 0, none⟩) 3 3) (by simp)
      · simpa [Addr.add] using hc 1 (.slice (some ⟨V 2, 0, none⟩) 3 3) (by simp)
    · have : i = 0 ∨ i = 1 ∨ i = 2 := by simp at hi; omega
      rcases this with rfl | rfl | rfl
      · have c0 := hv1.c0 0 (by omega); have c1 := hv1.c1 0 (by omega)
        simp [updF, nullA, h2, e1] at c0 c1
        exact ⟨by simpa using c0, by simpa using c1⟩
      · have c0 := hv1.c0 1 (by omega); have c1 := hv1.c1 1 (by omega)
        simp [updF, nullA, h2, e1] at c0 c1
        exact ⟨by simpa using c0, by simpa using c1⟩
      · have c0 := hv1.c0 2 (by omega); have c1 := hv1.c1 2 (by omega)
        simp [updF, nullA, h2, e1] at c0 c1
        exact ⟨by simpa using c0, by simpa using c1⟩
    · have : i = 0 ∨ i = 1 ∨ i = 2 := by simp at hi; omega
      rcases this with rfl | rfl | rfl
      · have c0 := hv2.c0 0 (by omega); have c1 := hv2.c1 0 (by omega)
        simp [updF, nullA, h2, e2] at c0 c1
        exact ⟨by simpa using c0, by simpa using c1⟩
      · have c0 := hv2.c0 1 (by omega); have c1 := hv2.c1 1 (by omega)
        simp [updF, nullA, h2, e2] at c0 c1
        exact ⟨by simpa using c0, by simpa using c1⟩
      · have c0 := hv2.c0 2 (by omega); have c1 := hv2.c1 2 (by omega)
        simp [updF, nullA, h2, e2] at c0 c1
        exact ⟨by simpa using c0, by simpa using c1⟩

theorem long1_any (ra : Option Addr) (n c : Nat) (w : World) (hn : n ≤ 9223372036854775807) :
    Calls Try.prog 43 #[.slice ra n c] w fun e w' => e = .returned (.bool (decide (20 < n))) ∧ Below w.heap.size w w' := by
  go_enter Try.func43, Try.ntmps43
  go_wp2_with fail
  go_ret
  exact ⟨by simp; omega, Below.refl _ _⟩

theorem idxL_any (ma : Option Addr) (mc R : Nat) (Ra : Nat → Option Addr) (Ln Ka : Nat → Nat) (Z : Nat → Nat → Int) (w : World) (hM : AMat w ma R Ra Ln Ka Z) (hR : R ≤ 1000) :
    Calls Try.prog 69 #[.slice ma R mc, .func (.func 43) #[] #[]] w fun e w' => Below w.heap.size w w' ∧ ((e = .returned (.int .i64 (-1)) ∧ ∀ i, i < R → ¬ 20 < Ln i) ∨ ∃ i, i < R ∧ e = .returned (.int .i64 (i : Nat)) ∧ 20 < Ln i) := by
  have HM := Lib.hid hM
  clear hM
  go_enter Try.func69, Try.ntmps69
  go_wp2_with fail
  have S0 : Hid (Below w.heap.size w w ∧ ∀ l, l < 0 → ¬ 20 < Ln l) := ⟨Below.refl _ _, fun l h => by omega⟩
  go_loopg [8] R (fun g s8 wx => ∃ i : Nat, s8 = .int .i64 i ∧ g = R - i ∧ i ≤ R ∧ Hid (Below w.heap.size w wx ∧ ∀ l, l < i → ¬ 20 < Ln l))
  case atStart => exact ⟨0, rfl, rfl, Nat.zero_le _, S0⟩
  case round =>
    clear S0
    obtain ⟨i, rfl, rfl, hi, S⟩ := hrel
    rename World => W1
    by_cases hlt : i < R
    · have wk : IntKind.i64.wrap ((i : Int) + 1) = ((i + 1 : Nat) : Int) := by rw [IntWalk.i64_in _ (by omega)]; omega
      obtain ⟨mb, mo, rfl, hmb, htop⟩ := HM.out.top (by omega)
      have p1 := (S.out.1.cell (p := ⟨mb, mo + i, none⟩) hmb).trans (htop i hlt)
      obtain ⟨tv, htv⟩ : ∃ v, decide (20 < Ln i) = v := ⟨_, rfl⟩
      have CI0 := long1_any (Ra i) (Ln i) (Ka i) W1 (HM.out.small i hlt)
      rw [htv] at CI0
      have CI := Lib.hid CI0
      have HTV := Lib.hid htv
      clear CI0 htv hmb htop
      go_wp2_with fail
      (with_reducible refine ((CI.out).mono ?_))
      rintro e w2 ⟨rfl, hb⟩
      have HB := Lib.hid (below_on S.out.1 hb)
      clear CI p1 hb
      cases tv
      · go_wp2_with fail
        have T : Hid (Below w.heap.size w w2 ∧ ∀ l, l < i + 1 → ¬ 20 < Ln l) := ⟨HB.out, fun l hl => by
          by_cases e : l = i
          · rw [e]; exact of_decide_eq_false HTV.out
          · exact S.out.2 l (by omega)⟩
        go_roundg (R - (i + 1))
        case measure => omega
        case rel => exact ⟨i + 1, rfl, rfl, by omega, T⟩
      · go_wp2_with fail
        go_ret
        exact ⟨HB.out, .inr ⟨i, hlt, rfl, of_decide_eq_true HTV.out⟩⟩
    · have e : i = R := by omega
      subst e
      go_wp2_with fail
      go_ret
      exact ⟨S.out.1, .inl ⟨rfl, S.out.2⟩⟩

def lgB (R : Nat) (Ln : Nat → Nat) : Bool := decide (12 < R ∨ ∃ i, i < R ∧ 20 < Ln i)
theorem contL_any (ma : Option Addr) (mc R : Nat) (Ra : Nat → Option Addr) (Ln Ka : Nat → Nat) (Z : Nat → Nat → Int) (w : World) (hM : AMat w ma R Ra Ln Ka Z) (hR : R ≤ 12) :
    Calls Try.prog 42 #[.slice ma R mc, .func (.func 43) #[] #[]] w fun e w' => e = .returned (.bool (lgB R Ln)) ∧ Below w.heap.size w w' := by
  have CI := Lib.hid (idxL_any ma mc R Ra Ln Ka Z w hM (by omega))
  clear hM
  go_enter Try.func42, Try.ntmps42
  go_wp2_with fail
  (with_reducible refine ((CI.out).mono ?_))
  rintro e w2 ⟨hb, ⟨rfl, h⟩ | ⟨i, hi, rfl, h⟩⟩
  · have hd : lgB R Ln = false := decide_eq_false fun g => by
      rcases g with g | ⟨i, hi, g⟩
      · omega
      · exact h i hi g
    have HD := Lib.hid hd
    clear hd h
    go_wp2_with fail
    go_ret
    exact ⟨by rw [HD.out]; simp, hb⟩
  · have hd : lgB R Ln = true := decide_eq_true (.inr ⟨i, hi, h⟩)
    have HD := Lib.hid hd
    clear hd h
    go_wp2_with fail
    go_ret
    exact ⟨by rw [HD.out]; simp, hb⟩

theorem long_any (ma : Option Addr) (mc R : Nat) (Ra : Nat → Option Addr) (Ln Ka : Nat → Nat) (Z : Nat → Nat → Int) (w : World) (hM : AMat w ma R Ra Ln Ka Z) (hR : R ≤ 9223372036854775807) :
    Calls Try.prog 11 #[.slice ma R mc] w fun e w' => e = .returned (.bool (lgB R Ln)) ∧ Below w.heap.size w w' := by
  by_cases h : 12 < R
  · have hd : lgB R Ln = true := decide_eq_true (.inl h)
    have HD := Lib.hid hd
    have t1 : (12 : Int) < (R : Int) := by omega
    clear hd
    go_enter Try.func11, Try.ntmps11
    go_wp2_with fail
    go_ret
    exact ⟨by rw [HD.out]; rfl, Below.refl _ _⟩
  · have CC := Lib.hid (contL_any ma mc R Ra Ln Ka Z w hM (by omega))
    have t1 : ¬ (12 : Int) < (R : Int) := by omega
    clear hM
    generalize lgB R Ln = tb at *
    go_enter Try.func11, Try.ntmps11
    go_wp2_with fail
    (with_reducible refine ((CC.out).mono ?_))
    rintro e w2 ⟨rfl, hb⟩
    go_wp2_with fail
    go_ret
    exact ⟨rfl, hb⟩

end Go.Proofs.Ytjggnmbdgagkoaa
