/- Layer 4: slices.ContainsFunc and slices.Contains at fractions. -/
import Derived.Test.YtjggnmbdgagkoaaLHm
import Derived.Test.YtjggnmbdgagkoaaLExam
namespace Go.Proofs.Ytjggnmbdgagkoaa
set_option linter.unusedVariables false
open Go.RowKit Go.Shelf

structure HldAR (tb : Nat) (Wc : World) (L : Nat → Bool) (v : Nat → Value) (g : Nat → Nat) (W : World) : Prop where
  st : Below Wc.heap.size Wc W
  f0 : Had L 0 (v 3 = .agg #[.int .i64 0, .int .i64 1])
  f1 : Had L 1 (v 4 = .agg #[.int .i64 0, .int .i64 1])
  f2 : Had L 2 (v 5 = .bool false)
  f3 : Had L 3 (v 2 = .bool false)

set_option maxRecDepth 100000 in
set_option maxHeartbeats 16000000 in
theorem zero_pred (w : World) : Calls Try.prog 33 #[.agg #[.int .i64 0, .int .i64 1]] w fun e w' => e = .returned (.bool false) ∧ Below w.heap.size w w' := by
  have CF := fun w => Lib.hid (f_any 0 w)
  have hb1 : Below w.heap.size w (w.alloc (Obj.cells #[Value.int IntKind.i64 0, Value.int IntKind.i64 1] 45)) := (Below.refl _ _).alloc (Nat.le_refl _) _
  have B1 := Blk.new w (.int .i64 0) (.int .i64 1) 45
  go_enter Try.func33, Try.ntmps33
  go_upto_region 1 with fail
  obtain ⟨tb, htb⟩ : ∃ x, x = w.heap.size := ⟨_, rfl⟩
  rw [← htb] at B1
  rw [← htb]
  have HB := Lib.hid hb1
  have LB := Lib.hid B1
  clear hb1 B1
  generalize w.alloc (Obj.cells #[Value.int IntKind.i64 0, Value.int IntKind.i64 1] 45) = W1 at *
  clear htb
  refine wp_region_each (fun L A W => ∃ (v : Nat → Value) (g : Nat → Nat), A = ⟨#[_, _, v 2, v 3, v 4, v 5], []⟩ ∧ HldAR tb W1 L v g W) (by kernel_rfl) (by kernel_rfl) ⟨fun jz => if jz = 2 then .bool false else undef, fun _ => 0, rfl, ⟨Below.drew (Below.refl _ _), Had.none, Had.none, Had.none, Had.none⟩⟩ (rs := [0, 1, 2, 3]) (by kernel_rfl) ?_ ?_
  · refine EachOf.cons [] rfl (by kernel_rfl) ?_ ?_
    · rintro L A W ⟨v, g, rfl, hR⟩ hi hw K hK
      obtain ⟨_, q0, q1⟩ := LB.out.on hR.st
      go_simp
      refine hK.out _ _ ?_
      exact ⟨(fun jz => if jz = 3 then .agg #[.int .i64 0, .int .i64 1] else v jz), g, rfl, ⟨hR.st, (fun _ => rfl), hR.f1.keep rfl, hR.f2.keep rfl, hR.f3.keep rfl⟩⟩
    refine EachOf.cons [] rfl (by kernel_rfl) ?_ ?_
    · rintro L A W ⟨v, g, rfl, hR⟩ hi hw K hK
      go_simp
      go_at_call 31
      (with_reducible refine ((CF _).out).mono ?_)
      rintro e w2 ⟨rfl, hb⟩
      go_simp
      refine hK.out _ _ ?_
      exact ⟨(fun jz => if jz = 4 then .agg #[.int .i64 0, .int .i64 1] else v jz), g, rfl, ⟨below_on hR.st hb, hR.f0.keep rfl, (fun _ => rfl), hR.f2.keep rfl, hR.f3.keep rfl⟩⟩
    refine EachOf.cons [0, 1] rfl (by kernel_rfl) ?_ ?_
    · rintro L A W ⟨v, g, rfl, hR⟩ hi hw K hK
      have e0 := hR.f0 (hw 0 (by simp))
      have e1 := hR.f1 (hw 1 (by simp))
      simp only [e0, e1]
      clear e0 e1
      go_simp
      refine hK.out _ _ ?_
      exact ⟨(fun jz => if jz = 3 then .agg #[.int .i64 0, .int .i64 1] else if jz = 4 then .agg #[.int .i64 0, .int .i64 1] else if jz = 5 then .bool false else v jz), g, rfl, ⟨hR.st, (fun _ => rfl), (fun _ => rfl), (fun _ => rfl), hR.f3.keep rfl⟩⟩
    refine EachOf.cons [2] rfl (by kernel_rfl) ?_ ?_
    · rintro L A W ⟨v, g, rfl, hR⟩ hi hw K hK
      have e2 := hR.f2 (hw 2 (by simp))
      simp only [e2]
      clear e2
      go_simp
      refine hK.out _ _ ?_
      exact ⟨(fun jz => if jz = 5 then .bool false else if jz = 2 then .bool false else v jz), g, rfl, ⟨hR.st, hR.f0.keep rfl, hR.f1.keep rfl, (fun _ => rfl), (fun _ => rfl)⟩⟩
    exact EachOf.nil
  rintro L A W ⟨v, g, rfl, hR⟩ hL
  have HR := Lib.hid (below_on HB.out hR.st)
  have e3 := hR.f3 (hL 3 (by simp))
  simp only [e3]
  clear e3 hR hL
  go_wp2_with fail
  go_ret
  exact ⟨rfl, HR.out⟩

set_option maxHeartbeats 4000000 in
theorem idxZ_any (xa : Option Addr) (n xc : Nat) (X : Nat → Int × Int) (w : World) (hx : IFr w xa n X) (hz : ∀ k, k < n → X k = (0, 1)) (hn : n ≤ 1000) :
    Calls Try.prog 59 #[.slice xa n xc, .func (.func 33) #[] #[]] w fun e w' => e = .returned (.int .i64 (-1)) ∧ Below w.heap.size w w' := by
  have HX := Lib.hid hx
  have HZ := Lib.hid hz
  have CZ := fun w => Lib.hid (zero_pred w)
  clear hx hz
  go_enter Try.func59, Try.ntmps59
  go_wp2_with fail
  have S0 : Hid (Below w.heap.size w w) := Below.refl _ _
  go_loopg [8] n (fun g s8 wx => ∃ i : Nat, s8 = .int .i64 i ∧ g = n - i ∧ i ≤ n ∧ Hid (Below w.heap.size w wx))
  case atStart => exact ⟨0, rfl, rfl, Nat.zero_le _, S0⟩
  case round =>
    clear S0
    obtain ⟨i, rfl, rfl, hi, S⟩ := hrel
    rename World => W1
    by_cases hlt : i < n
    · have wk : IntKind.i64.wrap ((i : Int) + 1) = ((i + 1 : Nat) : Int) := by rw [IntWalk.i64_in _ (by omega)]; omega
      obtain ⟨g, o, rfl, hg, hc⟩ := HX.out (by omega)
      have p1 := (S.out.cell (p := ⟨g, o + i * 2, none⟩) hg).trans (hc i hlt).1
      have p2 := (S.out.cell (p := ⟨g, o + i * 2 + 1, none⟩) hg).trans (hc i hlt).2
      rw [HZ.out i hlt] at p1 p2
      clear hc hg
      go_wp2_with fail
      (with_reducible refine (((CZ _).out).mono ?_))
      rintro e w2 ⟨rfl, hb⟩
      have HB := Lib.hid (below_on S.out hb)
      clear p1 p2 hb S
      go_wp2_with fail
      go_roundg (n - (i + 1))
      case measure => omega
      case rel => exact ⟨i + 1, rfl, rfl, by omega, HB⟩
    · have e : i = n := by omega
      subst e
      go_wp2_with fail
      go_ret
      exact ⟨rfl, S.out⟩
theorem contZ_any (xa : Option Addr) (n xc : Nat) (X : Nat → Int × Int) (w : World) (hx : IFr w xa n X) (hz : ∀ k, k < n → X k = (0, 1)) (hn : n ≤ 1000) :
    Calls Try.prog 32 #[.slice xa n xc, .func (.func 33) #[] #[]] w fun e w' => e = .returned (.bool false) ∧ Below w.heap.size w w' := by
  have CI := Lib.hid (idxZ_any xa n xc X w hx hz hn)
  clear hx hz
  go_enter Try.func32, Try.ntmps32
  go_wp2_with fail
  (with_reducible refine ((CI.out).mono ?_))
  rintro e w2 ⟨rfl, hb⟩
  go_wp2_with fail
  go_ret
  exact ⟨rfl, hb⟩

set_option maxHeartbeats 4000000 in
theorem idx1_any (xa : Option Addr) (n xc c : Nat) (X : Nat → Int × Int) (w : World) (hx : IFr w xa n X) (hc : c < n) (h1 : X c = (1, 1)) (hn : n ≤ 1000) :
    Calls Try.prog 60 #[.slice xa n xc, .agg #[.int .i64 1, .int .i64 1]] w fun e w' => (∃ i : Nat, e = .returned (.int .i64 i)) ∧ Below w.heap.size w w' := by
  have HX := Lib.hid hx
  have H1 := Lib.hid h1
  have hb1 : Below w.heap.size w (w.alloc (Obj.cells #[Value.int IntKind.i64 1, Value.int IntKind.i64 1] 45)) := (Below.refl _ _).alloc (Nat.le_refl _) _
  have B1 := Blk.new w (.int .i64 1) (.int .i64 1) 45
  clear hx h1
  go_enter Try.func60, Try.ntmps60
  go_upto_region 1 with fail
  obtain ⟨tb, htb⟩ : ∃ x, x = w.heap.size := ⟨_, rfl⟩
  rw [← htb] at B1
  rw [← htb]
  have S0 : Hid ((Below w.heap.size w (w.alloc (Obj.cells #[Value.int IntKind.i64 1, Value.int IntKind.i64 1] 45)) ∧ Blk (w.alloc (Obj.cells #[Value.int IntKind.i64 1, Value.int IntKind.i64 1] 45)) tb (.int .i64 1) (.int .i64 1)) ∧ 0 ≤ c) := ⟨⟨hb1, B1⟩, Nat.zero_le _⟩
  clear hb1 B1 htb
  generalize w.alloc (Obj.cells #[Value.int IntKind.i64 1, Value.int IntKind.i64 1] 45) = W0 at *
  go_wp2_with fail
  go_loopg [8] n (fun g s8 wx => ∃ i : Nat, s8 = .int .i64 i ∧ g = n - i ∧ i ≤ n ∧ Hid ((Below w.heap.size w wx ∧ Blk wx tb (.int .i64 1) (.int .i64 1)) ∧ i ≤ c))
  case atStart => exact ⟨0, rfl, rfl, Nat.zero_le _, S0⟩
  case round =>
    clear S0
    obtain ⟨i, rfl, rfl, hi, S⟩ := hrel
    rename World => W1
    have hic := S.out.2
    have hlt : i < n := by omega
    have wk : IntKind.i64.wrap ((i : Int) + 1) = ((i + 1 : Nat) : Int) := by rw [IntWalk.i64_in _ (by omega)]; omega
    obtain ⟨g, o, rfl, hg, hcc⟩ := HX.out (by omega)
    have p1 := (S.out.1.1.cell (p := ⟨g, o + i * 2, none⟩) hg).trans (hcc i hlt).1
    have p2 := (S.out.1.1.cell (p := ⟨g, o + i * 2 + 1, none⟩) hg).trans (hcc i hlt).2
    obtain ⟨_, b0, b1⟩ := S.out.1.2
    obtain ⟨x, hx⟩ : ∃ x, X i = x := ⟨_, rfl⟩
    rw [hx] at p1 p2
    have HXI := Lib.hid hx
    clear hcc hg hx
    obtain ⟨xa, xb⟩ := x
    simp only at p1 p2
    go_upto_region 4 with fail
    by_cases e : xa = 1 ∧ xb = 1
    · obtain ⟨rfl, rfl⟩ := e
      go_quiet (fail)
      have HB := Lib.hid (below_drewN' S.out.1.1 nq)
      clear p1 p2 b0 b1 S
      go_wp2_with fail
      go_ret
      exact ⟨⟨i, rfl⟩, HB.out⟩
    · have hne : i ≠ c := fun h => by
        have := HXI.out
        rw [h, H1.out] at this
        injection this with a b
        exact e ⟨a.symm, b.symm⟩
      by_cases e1 : xa = 1
      · subst e1
        have e2 : ¬ (1 = xb) := fun h => e ⟨rfl, h.symm⟩
        have e3 : (1 == xb) = false := by simpa using e2
        clear e
        go_quiet (fail)
        have T : Hid ((Below w.heap.size w (W1.drewN nq) ∧ Blk (W1.drewN nq) tb (.int .i64 1) (.int .i64 1)) ∧ i + 1 ≤ c) := ⟨⟨below_drewN' S.out.1.1 nq, S.out.1.2.on (below_drewN' (Below.refl _ _) nq)⟩, by omega⟩
        clear p1 p2 b0 b1 S
        go_wp2_with fail
        go_roundg (n - (i + 1))
        case measure => omega
        case rel => exact ⟨i + 1, rfl, rfl, by omega, T⟩
      · have e2 : ¬ (1 = xa) := fun h => e1 h.symm
        have e3 : (1 == xa) = false := by simpa using e2
        clear e
        go_quiet (fail)
        have T : Hid ((Below w.heap.size w (W1.drewN nq) ∧ Blk (W1.drewN nq) tb (.int .i64 1) (.int .i64 1)) ∧ i + 1 ≤ c) := ⟨⟨below_drewN' S.out.1.1 nq, S.out.1.2.on (below_drewN' (Below.refl _ _) nq)⟩, by omega⟩
        clear p1 p2 b0 b1 S
        go_wp2_with fail
        go_roundg (n - (i + 1))
        case measure => omega
        case rel => exact ⟨i + 1, rfl, rfl, by omega, T⟩
theorem cont1_any (xa : Option Addr) (n xc c : Nat) (X : Nat → Int × Int) (w : World) (hx : IFr w xa n X) (hc : c < n) (h1 : X c = (1, 1)) (hn : n ≤ 1000) :
    Calls Try.prog 34 #[.slice xa n xc, .agg #[.int .i64 1, .int .i64 1]] w fun e w' => e = .returned (.bool true) ∧ Below w.heap.size w w' := by
  have HX := Lib.hid hx
  have H1 := Lib.hid h1
  have hb1 : Below w.heap.size w (w.alloc (Obj.cells #[Value.int IntKind.i64 1, Value.int IntKind.i64 1] 45)) := (Below.refl _ _).alloc (Nat.le_refl _) _
  have B1 := Blk.new w (.int .i64 1) (.int .i64 1) 45
  clear hx h1
  go_enter Try.func34, Try.ntmps34
  go_upto_region 1 with fail
  obtain ⟨tb, htb⟩ : ∃ x, x = w.heap.size := ⟨_, rfl⟩
  rw [← htb] at B1
  rw [← htb]
  have CI := Lib.hid (idx1_any xa n xc c X _ (HX.out.on hb1) hc H1.out hn)
  have HB := Lib.hid hb1
  clear hb1 htb
  generalize w.alloc (Obj.cells #[Value.int IntKind.i64 1, Value.int IntKind.i64 1] 45) = W0 at *
  obtain ⟨_, b0, b1⟩ := B1
  go_wp2_with fail
  (with_reducible refine ((CI.out).mono ?_))
  rintro e w2 ⟨⟨i, rfl⟩, hb⟩
  have hi : ¬ ((i : Int) < 0) := by omega
  go_wp2_with fail
  go_ret
  exact ⟨by simp, below_on HB.out hb⟩

end Go.Proofs.Ytjggnmbdgagkoaa
