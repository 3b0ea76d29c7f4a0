/- Layer 5: the reference's Column, Rights, Signed. Layer 5: the reference's below, Proves, Refutes, Check. Layer 5: the reference's Refutes. Layer 5: the law ProgramChecks, walked. -/
import Derived.Test.YtggpdhdbeokkcaaGreatPRfe
import Derived.Test.YtggpdhdbeokkcaaGreatPBts
namespace Go.Proofs.YtggpdhdbeokkcaaGreat
set_option linter.unusedVariables false
open Go.RowKit Go.Shelf

theorem intsD_succ (n : Nat) (f : Nat → Int) : ((List.range (n + 1)).map fun j => Value.int .i64 (f j)) = ((List.range n).map fun j => Value.int .i64 (f j)) ++ [.int .i64 (f n)] := by
 rw [List.range_succ, List.map_append]; rfl
theorem comS_congr {f g : Nat → Int} {X : Nat → Int × Int} : ∀ n, (∀ i, i < n → f i = g i) → comS f X n = comS g X n := by
 intro n
 induction n with
 | zero => intro _; rfl
 | succ n ih =>
  intro h
  have h1 := ih fun i hi => h i (by omega)
  have h2 := h n (by omega)
  show (if (comS f X n).2.2 = 0 then (if (mulT (f n) 1 (X n).1 (X n).2).2.2 = 0 then addT (comS f X n).1 (comS f X n).2.1 (mulT (f n) 1 (X n).1 (X n).2).1 (mulT (f n) 1 (X n).1 (X n).2).2.1 else mulT (f n) 1 (X n).1 (X n).2) else comS f X n) = (if (comS g X n).2.2 = 0 then (if (mulT (g n) 1 (X n).1 (X n).2).2.2 = 0 then addT (comS g X n).1 (comS g X n).2.1 (mulT (g n) 1 (X n).1 (X n).2).1 (mulT (g n) 1 (X n).1 (X n).2).2.1 else mulT (g n) 1 (X n).1 (X n).2) else comS g X n)
  rw [h1, h2]

set_option maxRecDepth 100000 in
set_option maxHeartbeats 8000000 in
theorem rpColumn_any (p : PgD) (hok : p.Ok) (k : Nat) (hk : k < p.n) (w : World) (hp : p.At w) :
  Calls Tryz.prog 80 #[p.val, .int .i64 (k : Int)] w fun e w' => Below w.heap.size w w' ∧ ∃ pa pc, e = .returned (.slice pa p.m pc) ∧ w'.ownsRow w.heap.size 3 1 (.slice pa p.m pc) p.m ((List.range p.m).map fun i => Value.int .i64 (p.Z i k)) := by
 unfold PgD.val
 have hm6 := hok.m2
 have HP := Lib.hid hp
 have HOK := Lib.hid hok
 have hb1 : Below w.heap.size w (w.alloc (Obj.cells #[Value.slice p.ca p.n p.cc, .slice p.ra p.m p.rc] 25)) := (Below.refl _ _).alloc (Nat.le_refl _) _
 obtain ⟨w1, hw1⟩ : ∃ W, W = w.alloc (Obj.cells #[Value.slice p.ca p.n p.cc, .slice p.ra p.m p.rc] 25) := ⟨_, rfl⟩
 obtain ⟨xb, hxb⟩ : ∃ x, x = w.heap.size := ⟨_, rfl⟩
 have hB : Blk w1 xb (.slice p.ca p.n p.cc) (.slice p.ra p.m p.rc) := by rw [hw1, hxb]; exact Blk.new _ _ _ _
 rw [← hw1] at hb1
 have HLX : Hid (w.heap.size + 1 ≤ w1.heap.size ∧ xb < w.heap.size + 1) := ⟨by rw [hw1]; simp, by omega⟩
 have S0 : Hid (Below w.heap.size w w1 ∧ Blk w1 xb (.slice p.ca p.n p.cc) (.slice p.ra p.m p.rc) ∧ w1.ownsRow (w.heap.size + 1) 3 1 (.slice none 0 0) 0 ((List.range 0).map fun i => Value.int .i64 (p.Z i k))) := ⟨hb1, hB, ⟨rfl, .inl ⟨rfl, rfl⟩⟩⟩
 clear hb1 hB hp hok
 obtain ⟨i0, hi0, hz0, hz1, hz2⟩ := info_parts (show (Tryz.prog.info? 3).map (fun i => (i.zero, i.size, i.bytes)) = some (some (Value.int IntKind.i64 0), 1, 8) by kernel_rfl)
 have HI := Lib.hid (And.intro hi0 (And.intro hz0 (And.intro hz1 hz2)))
 clear hi0 hz0 hz1 hz2
 go_enter Tryz.func80, Tryz.ntmps80
 go_upto_region 1 with fail
 rw [← hxb, ← hw1]
 clear hxb hw1
 go_wp2_with fail
 go_loopg [6, 5] p.m (fun g s6 s5 wx => ∃ i : Nat, s6 = .int .i64 i ∧ g = p.m - i ∧ i ≤ p.m ∧ Hid (Below w.heap.size w wx ∧ Blk wx xb (.slice p.ca p.n p.cc) (.slice p.ra p.m p.rc) ∧ wx.ownsRow (w.heap.size + 1) 3 1 s5 i ((List.range i).map fun i => Value.int .i64 (p.Z i k))))
 case atStart => exact ⟨0, rfl, rfl, Nat.zero_le _, S0⟩
 case round =>
  clear S0
  obtain ⟨i, rfl, rfl, hi, S⟩ := hrel
  rename World => W1
  obtain ⟨pa, pc, hpv⟩ := own_form S.out.2.2
  subst hpv
  have q1 := S.out.2.1.2.2
  by_cases hlt : i < p.m
  ·have wk : IntKind.i64.wrap ((i : Int) + 1) = ((i + 1 : Nat) : Int) := by rw [IntWalk.i64_in _ (by omega)]; omega
   obtain ⟨gr, gro, er, hgr, hrow⟩ := (HP.out.on S.out.1).rows (by omega)
   have p1 := (hrow i hlt).1
   have hir := (HP.out.on S.out.1).coef i hlt
   rw [HOK.out.l i hlt] at p1 hir
   obtain ⟨cg, co, ec, hcg, hcr⟩ := hir (by omega)
   have p2 := hcr k hk
   rw [ec] at p1
   have lk : (k : Int) < (p.n : Int) := by omega
   have HER := Lib.hid er
   rw [er] at q1
   rw [er]
   obtain ⟨z, hz⟩ : ∃ x, p.Z i k = x := ⟨_, rfl⟩
   rw [hz] at p2
   have HZ := Lib.hid hz
   clear hrow hir hcr hcg ec er hgr hz
   have B5 : Hid (Below W1.heap.size W1 (W1.alloc (Obj.cells #[.int .i64 z] 3))) := (Below.refl _ _).alloc (Nat.le_refl _) _
   have O5 : Hid ((W1.alloc (Obj.cells #[.int .i64 z] 3)).ownsRow (w.heap.size + 1) 3 1 (.slice pa i pc) i ((List.range i).map fun i => Value.int .i64 (p.Z i k))) := own_only S.out.2.2 (Only.of_below (S := fun _ => False) B5.out) (fun _ _ q => q)
   have A5 : Hid (∀ l u, [Value.int .i64 z][l]? = some u → (W1.alloc (Obj.cells #[.int .i64 z] 3)).cell? ((⟨W1.heap.size, 0, none⟩ : Addr).add l) = some u) := one_news (by simp [go_sem])
   have L5 : Hid (w.heap.size + 1 ≤ (W1.alloc (Obj.cells #[.int .i64 z] 3)).heap.size) := by
    show _ ≤ _
    have := S.out.2.1.1
    have := B5.out.size
    have := HLX.out
    have := S.out.1.size
    simp
    omega
   go_upto_region 4 with (at_builtin; refine wpList_append_lies _ rfl _ _ 22 rfl (w.heap.size + 1) 3 i0 (.int .i64 0) 1 8 Tryz.underlying22 HI.out.1 HI.out.2.1 HI.out.2.2.1 HI.out.2.2.2 rfl (by decide) _ _ _ rfl O5.out ⟨W1.heap.size, 0, none⟩ 1 1 [.int .i64 z] rfl rfl A5.out (by intro u hu; simp at hu; subst hu; rfl) (by omega) (by unfold maxLen; omega) (by omega) L5.out _ rfl ?_; intro q5 cap5 W5 hown hgrow hat hqlt)
   have hA := grown_only (Below.refl _ _) hgrow
   have T : Hid (Below w.heap.size w W5 ∧ Blk W5 xb (.slice p.ca p.n p.cc) (.slice p.ra p.m p.rc) ∧ W5.ownsRow (w.heap.size + 1) 3 1 (.slice (some ⟨q5, 0, none⟩) (i + 1) cap5) (i + 1) ((List.range (i + 1)).map fun i => Value.int .i64 (p.Z i k))) :=
    ⟨(below_on S.out.1 B5.out).trans (hA.below (below_on S.out.1 B5.out).size (fun c hc => by have := (O5.out.lt c hc).1; omega)), (S.out.2.1.on B5.out).only hA (fun e => by have := (O5.out.lt xb e).1; have := HLX.out.2; omega), by
     rw [intsD_succ i (fun i => p.Z i k)]
     rw [show p.Z i k = z from HZ.out]
     exact hown⟩
   clear S hown hgrow hat hqlt hA B5 O5 A5 L5 HZ p1 p2 lk q1
   go_wp2_with fail
   rw [← HER.out]
   go_roundg (p.m - (i + 1))
   case measure => omega
   case rel => exact ⟨i + 1, rfl, rfl, by omega, T⟩
  ·have e : i = p.m := by omega
   subst e
   go_wp2_with fail
   go_ret
   exact ⟨S.out.1, pa, pc, rfl, ⟨S.out.2.2.1, S.out.2.2.2.imp id (fun ⟨g, cap, cur, h1, h2, h3⟩ => ⟨g, cap, cur, h1, Nat.le_trans (Nat.le_succ _) h2, h3⟩)⟩⟩

set_option maxRecDepth 100000 in
set_option maxHeartbeats 8000000 in
theorem rpRights_any (p : PgD) (hok : p.Ok) (w : World) (hp : p.At w) :
  Calls Tryz.prog 41 #[p.val] w fun e w' => Below w.heap.size w w' ∧ ∃ pa pc, e = .returned (.slice pa p.m pc) ∧ w'.ownsRow w.heap.size 3 1 (.slice pa p.m pc) p.m ((List.range p.m).map fun i => Value.int .i64 (p.Rt i)) := by
 unfold PgD.val
 have hm6 := hok.m2
 have HP := Lib.hid hp
 have HOK := Lib.hid hok
 have hb1 : Below w.heap.size w (w.alloc (Obj.cells #[Value.slice p.ca p.n p.cc, .slice p.ra p.m p.rc] 25)) := (Below.refl _ _).alloc (Nat.le_refl _) _
 obtain ⟨w1, hw1⟩ : ∃ W, W = w.alloc (Obj.cells #[Value.slice p.ca p.n p.cc, .slice p.ra p.m p.rc] 25) := ⟨_, rfl⟩
 obtain ⟨xb, hxb⟩ : ∃ x, x = w.heap.size := ⟨_, rfl⟩
 have hB : Blk w1 xb (.slice p.ca p.n p.cc) (.slice p.ra p.m p.rc) := by rw [hw1, hxb]; exact Blk.new _ _ _ _
 rw [← hw1] at hb1
 have HLX : Hid (w.heap.size + 1 ≤ w1.heap.size ∧ xb < w.heap.size + 1) := ⟨by rw [hw1]; simp, by omega⟩
 have S0 : Hid (Below w.heap.size w w1 ∧ Blk w1 xb (.slice p.ca p.n p.cc) (.slice p.ra p.m p.rc) ∧ w1.ownsRow (w.heap.size + 1) 3 1 (.slice none 0 0) 0 ((List.range 0).map fun i => Value.int .i64 (p.Rt i))) := ⟨hb1, hB, ⟨rfl, .inl ⟨rfl, rfl⟩⟩⟩
 clear hb1 hB hp hok
 obtain ⟨i0, hi0, hz0, hz1, hz2⟩ := info_parts (show (Tryz.prog.info? 3).map (fun i => (i.zero, i.size, i.bytes)) = some (some (Value.int IntKind.i64 0), 1, 8) by kernel_rfl)
 have HI := Lib.hid (And.intro hi0 (And.intro hz0 (And.intro hz1 hz2)))
 clear hi0 hz0 hz1 hz2
 go_enter Tryz.func41, Tryz.ntmps41
 go_upto_region 1 with fail
 rw [← hxb, ← hw1]
 clear hxb hw1
 go_wp2_with fail
 go_loopg [4, 3] p.m (fun g s4 s3 wx => ∃ i : Nat, s4 = .int .i64 i ∧ g = p.m - i ∧ i ≤ p.m ∧ Hid (Below w.heap.size w wx ∧ Blk wx xb (.slice p.ca p.n p.cc) (.slice p.ra p.m p.rc) ∧ wx.ownsRow (w.heap.size + 1) 3 1 s3 i ((List.range i).map fun i => Value.int .i64 (p.Rt i))))
 case atStart => exact ⟨0, rfl, rfl, Nat.zero_le _, S0⟩
 case round =>
  clear S0
  obtain ⟨i, rfl, rfl, hi, S⟩ := hrel
  rename World => W1
  obtain ⟨pa, pc, hpv⟩ := own_form S.out.2.2
  subst hpv
  have q1 := S.out.2.1.2.2
  by_cases hlt : i < p.m
  ·have wk : IntKind.i64.wrap ((i : Int) + 1) = ((i + 1 : Nat) : Int) := by rw [IntWalk.i64_in _ (by omega)]; omega
   obtain ⟨gr, gro, er, hgr, hrow⟩ := (HP.out.on S.out.1).rows (by omega)
   have p2 := (hrow i hlt).2.2
   have HER := Lib.hid er
   rw [er] at q1
   rw [er]
   obtain ⟨z, hz⟩ : ∃ x, p.Rt i = x := ⟨_, rfl⟩
   rw [hz] at p2
   have HZ := Lib.hid hz
   clear hrow er hgr hz
   have B5 : Hid (Below W1.heap.size W1 (W1.alloc (Obj.cells #[.int .i64 z] 3))) := (Below.refl _ _).alloc (Nat.le_refl _) _
   have O5 : Hid ((W1.alloc (Obj.cells #[.int .i64 z] 3)).ownsRow (w.heap.size + 1) 3 1 (.slice pa i pc) i ((List.range i).map fun i => Value.int .i64 (p.Rt i))) := own_only S.out.2.2 (Only.of_below (S := fun _ => False) B5.out) (fun _ _ q => q)
   have A5 : Hid (∀ l u, [Value.int .i64 z][l]? = some u → (W1.alloc (Obj.cells #[.int .i64 z] 3)).cell? ((⟨W1.heap.size, 0, none⟩ : Addr).add l) = some u) := one_news (by simp [go_sem])
   have L5 : Hid (w.heap.size + 1 ≤ (W1.alloc (Obj.cells #[.int .i64 z] 3)).heap.size) := by
    show _ ≤ _
    have := S.out.2.1.1
    have := B5.out.size
    have := HLX.out
    have := S.out.1.size
    simp
    omega
   go_upto_region 4 with (at_builtin; refine wpList_append_lies _ rfl _ _ 22 rfl (w.heap.size + 1) 3 i0 (.int .i64 0) 1 8 Tryz.underlying22 HI.out.1 HI.out.2.1 HI.out.2.2.1 HI.out.2.2.2 rfl (by decide) _ _ _ rfl O5.out ⟨W1.heap.size, 0, none⟩ 1 1 [.int .i64 z] rfl rfl A5.out (by intro u hu; simp at hu; subst hu; rfl) (by omega) (by unfold maxLen; omega) (by omega) L5.out _ rfl ?_; intro q5 cap5 W5 hown hgrow hat hqlt)
   have hA := grown_only (Below.refl _ _) hgrow
   have T : Hid (Below w.heap.size w W5 ∧ Blk W5 xb (.slice p.ca p.n p.cc) (.slice p.ra p.m p.rc) ∧ W5.ownsRow (w.heap.size + 1) 3 1 (.slice (some ⟨q5, 0, none⟩) (i + 1) cap5) (i + 1) ((List.range (i + 1)).map fun i => Value.int .i64 (p.Rt i))) :=
    ⟨(below_on S.out.1 B5.out).trans (hA.below (below_on S.out.1 B5.out).size (fun c hc => by have := (O5.out.lt c hc).1; omega)), (S.out.2.1.on B5.out).only hA (fun e => by have := (O5.out.lt xb e).1; have := HLX.out.2; omega), by
     rw [intsD_succ i p.Rt]
     rw [show p.Rt i = z from HZ.out]
     exact hown⟩
   clear S hown hgrow hat hqlt hA B5 O5 A5 L5 HZ p2 q1
   go_wp2_with fail
   rw [← HER.out]
   go_roundg (p.m - (i + 1))
   case measure => omega
   case rel => exact ⟨i + 1, rfl, rfl, by omega, T⟩
  ·have e : i = p.m := by omega
   subst e
   go_wp2_with fail
   go_ret
   exact ⟨S.out.1, pa, pc, rfl, ⟨S.out.2.2.1, S.out.2.2.2.imp id (fun ⟨g, cap, cur, h1, h2, h3⟩ => ⟨g, cap, cur, h1, Nat.le_trans (Nat.le_succ _) h2, h3⟩)⟩⟩

set_option maxRecDepth 100000 in
set_option maxHeartbeats 16000000 in
theorem rpSigned_any (p : PgD) (hok : p.Ok) (xa : Option Addr) (xc : Nat) (Y : Nat → Int × Int) (w : World) (hp : p.At w) (hx : IFr w xa p.m Y) (hv : FrV p.m Y) (v : Bool) (hvv : v = true ↔ RgS p Y) :
  Calls Tryz.prog 43 #[p.val, .slice xa p.m xc] w fun e w' => e = .returned (.bool v) ∧ Below w.heap.size w w' := by
 unfold PgD.val
 have hm6 := hok.m2
 have HP := Lib.hid hp
 have HX := Lib.hid hx
 have HV := Lib.hid hv
 have HOK := Lib.hid hok
 have HVV := Lib.hid hvv
 have HSG := Lib.hid (fun (a d : Int) (h : Vld a d) (W : World) => Lib.hid (rpSign_any a d W h))
 have hb1 : Below w.heap.size w (w.alloc (Obj.cells #[Value.slice p.ca p.n p.cc, .slice p.ra p.m p.rc] 25)) := (Below.refl _ _).alloc (Nat.le_refl _) _
 obtain ⟨w1, hw1⟩ : ∃ W, W = w.alloc (Obj.cells #[Value.slice p.ca p.n p.cc, .slice p.ra p.m p.rc] 25) := ⟨_, rfl⟩
 obtain ⟨xb, hxb⟩ : ∃ x, x = w.heap.size := ⟨_, rfl⟩
 have hB : Blk w1 xb (.slice p.ca p.n p.cc) (.slice p.ra p.m p.rc) := by rw [hw1, hxb]; exact Blk.new _ _ _ _
 rw [← hw1] at hb1
 have S0 : Hid (Below w.heap.size w w1 ∧ Blk w1 xb (.slice p.ca p.n p.cc) (.slice p.ra p.m p.rc) ∧ ∀ i, i < 0 → ¬ ((p.Kd i = 1 ∧ 0 < (Y i).1) ∨ (p.Kd i = 2 ∧ (Y i).1 < 0))) := ⟨hb1, hB, fun i h => by omega⟩
 clear hb1 hB hp hx hv hok hvv
 go_enter Tryz.func43, Tryz.ntmps43
 go_upto_region 1 with fail
 rw [← hxb, ← hw1]
 clear hxb hw1
 go_wp2_with fail
 go_loopg [5] p.m (fun g s5 wx => ∃ i : Nat, s5 = .int .i64 i ∧ g = p.m - i ∧ i ≤ p.m ∧ Hid (Below w.heap.size w wx ∧ Blk wx xb (.slice p.ca p.n p.cc) (.slice p.ra p.m p.rc) ∧ ∀ l, l < i → ¬ ((p.Kd l = 1 ∧ 0 < (Y l).1) ∨ (p.Kd l = 2 ∧ (Y l).1 < 0))))
 case atStart => exact ⟨0, rfl, rfl, Nat.zero_le _, S0⟩
 case round =>
  clear S0
  obtain ⟨i, rfl, rfl, hi, S⟩ := hrel
  rename World => W1
  by_cases hlt : i < p.m
  ·have wk : IntKind.i64.wrap ((i : Int) + 1) = ((i + 1 : Nat) : Int) := by rw [IntWalk.i64_in _ (by omega)]; omega
   obtain ⟨xg, xo, ex, hxg, hxc⟩ := (HX.out.on S.out.1) (by omega)
   obtain ⟨gr, gro, er, hgr, hrow⟩ := (HP.out.on S.out.1).rows (by omega)
   have p1 := (hxc i hlt).1
   have p2 := (hxc i hlt).2
   have p3 := (hrow i hlt).2.1
   have q1 := S.out.2.1.2.2
   have hkk := HOK.out.k i hlt
   have vx := HV.out i hlt
   have hz := cmpI_zero vx
   have CG := fun W => HSG.out (Y i).1 (Y i).2 vx W
   obtain ⟨k, hk⟩ : ∃ k, cmpI (Y i).1 (Y i).2 0 = k := ⟨_, rfl⟩
   rw [hk] at hz
   simp only [hk] at CG
   obtain ⟨xn, hxn⟩ : ∃ x, (Y i).1 = x := ⟨_, rfl⟩
   rw [hxn] at p1 hz CG
   generalize (Y i).2 = xd at *
   obtain ⟨kd, hkd⟩ : ∃ x, p.Kd i = x := ⟨_, rfl⟩
   rw [hkd] at p3 hkk
   have HI := Lib.hid (And.intro hxn (And.intro hkd hz))
   have HEX := Lib.hid (And.intro ex er)
   have HGR := Lib.hid hgr
   rw [er] at q1
   rw [ex, er]
   clear hxc hxg ex er hk hxn hkd hz vx hrow hgr
   have hb0 : Hid (∀ W2, Below W1.heap.size W1 W2 → ¬ ((kd = 1 ∧ 0 < xn) ∨ (kd = 2 ∧ xn < 0)) → (Below w.heap.size w W2 ∧ Blk W2 xb (.slice p.ca p.n p.cc) (.slice p.ra p.m p.rc) ∧ ∀ l, l < i + 1 → ¬ ((p.Kd l = 1 ∧ 0 < (Y l).1) ∨ (p.Kd l = 2 ∧ (Y l).1 < 0)))) := fun W2 hb hn => ⟨below_on S.out.1 hb, S.out.2.1.on hb, fun l hl => by
    by_cases e : l = i
    ·rw [e, HI.out.1, HI.out.2.1]; exact hn
    ·exact S.out.2.2 l (by omega)⟩
   have hN0 : Hid (((kd = 1 ∧ 0 < xn) ∨ (kd = 2 ∧ xn < 0)) → v = false) := fun h => by
    cases v
    ·rfl
    ·have := HVV.out.1 rfl i hlt
     rw [HI.out.1, HI.out.2.1] at this
     exact absurd h this
   obtain rfl | rfl | rfl : kd = 1 ∨ kd = 2 ∨ kd = 3 := by omega
   ·by_cases h0 : 0 < k
    ·have HN : Hid (v = false) := hN0.out (.inl ⟨rfl, HI.out.2.2.2.2.1 h0⟩)
     have t1 : decide (0 < k) = true := decide_eq_true h0
     clear hb0 hN0 HI
     go_wp2_with fail
     (with_reducible refine (((CG _).out).mono ?_))
     rintro e w2 ⟨rfl, hb2⟩
     have HB2 := Lib.hid (below_on S.out.1 hb2)
     clear CG hb2 p1 p2
     go_wp2_with fail
     go_ret
     exact ⟨by rw [HN.out]; rfl, HB2.out⟩
    ·have t1 : decide (0 < k) = false := decide_eq_false h0
     have HH : Hid (¬ (((1 : Int) = 1 ∧ 0 < xn) ∨ ((1 : Int) = 2 ∧ xn < 0))) := by
      rintro (⟨_, h⟩ | ⟨h, _⟩)
      ·exact h0 (HI.out.2.2.2.2.2 h)
      ·exact absurd h (by decide)
     clear hN0 HI
     go_wp2_with fail
     (with_reducible refine (((CG _).out).mono ?_))
     rintro e w2 ⟨rfl, hb2⟩
     have T := Lib.hid (hb0.out w2 hb2 HH.out)
     have q1 := (hb2.cell (p := ⟨xb, 1, none⟩) S.out.2.1.1).trans q1
     have HB2 := Lib.hid hb2
     clear CG p1 p2 hb0 HH
     have p3 := (HB2.out.cell (p := ⟨gr, gro + i * 3 + 1, none⟩) HGR.out).trans p3
     clear HB2 hb2 S
     go_wp2_with fail
     rw [← HEX.out.1, ← HEX.out.2]
     go_roundg (p.m - (i + 1))
     case measure => omega
     case rel => exact ⟨i + 1, rfl, rfl, by omega, T⟩
   ·by_cases h0 : k < 0
    ·have HN : Hid (v = false) := hN0.out (.inr ⟨rfl, by
      have h1 := HI.out.2.2.1
      have h2 := HI.out.2.2
      omega⟩)
     have t1 : decide (k < 0) = true := decide_eq_true h0
     clear hb0 hN0 HI
     go_wp2_with fail
     (with_reducible refine (((CG _).out).mono ?_))
     rintro e w2 ⟨rfl, hb2⟩
     have HB2 := Lib.hid (below_on S.out.1 hb2)
     clear CG hb2 p1 p2
     go_wp2_with fail
     go_ret
     exact ⟨by rw [HN.out]; rfl, HB2.out⟩
    ·have t1 : decide (k < 0) = false := decide_eq_false h0
     have HH : Hid (¬ (((2 : Int) = 1 ∧ 0 < xn) ∨ ((2 : Int) = 2 ∧ xn < 0))) := by
      rintro (⟨h, _⟩ | ⟨_, h⟩)
      ·exact absurd h (by decide)
      ·have h2 := HI.out.2.2
       omega
     clear hN0 HI
     go_wp2_with fail
     (with_reducible refine (((CG _).out).mono ?_))
     rintro e w2 ⟨rfl, hb2⟩
     have T := Lib.hid (hb0.out w2 hb2 HH.out)
     clear CG p1 p2 hb0 HH hb2 S
     go_wp2_with fail
     rw [← HEX.out.1, ← HEX.out.2]
     go_roundg (p.m - (i + 1))
     case measure => omega
     case rel => exact ⟨i + 1, rfl, rfl, by omega, T⟩
   ·have T := Lib.hid (hb0.out W1 (Below.refl _ _) (by rintro (⟨h, _⟩ | ⟨h, _⟩) <;> exact absurd h (by decide)))
    clear CG hb0 hN0 HI S
    go_wp2_with fail
    rw [← HEX.out.1, ← HEX.out.2]
    go_roundg (p.m - (i + 1))
    case measure => omega
    case rel => exact ⟨i + 1, rfl, rfl, by omega, T⟩
  ·have e : i = p.m := by omega
   subst e
   have HN : Hid (v = true) := HVV.out.2 S.out.2.2
   go_wp2_with fail
   go_ret
   exact ⟨by rw [HN.out]; rfl, S.out.1⟩
end Go.Proofs.YtggpdhdbeokkcaaGreat

namespace Go.Proofs.YtggpdhdbeokkcaaGreat
set_option linter.unusedVariables false
open Go.RowKit Go.Shelf

theorem own_sm {W : World} {base t size n : Nat} {v : Value} {xs : List Value} (h : W.ownsRow base t size v n xs) (hn : 0 < n) : ∃ g cap, v = .slice (some ⟨g, 0, none⟩) n cap := by
 rcases h.2 with ⟨h1, h2⟩ | ⟨g, cap, cur, hv, _⟩
 ·omega
 ·exact ⟨g, cap, hv⟩
theorem irow_z {W : World} {base n : Nat} {pa : Option Addr} {pc : Nat} {f : Nat → Int} (h : W.ownsRow base 3 1 (.slice pa n pc) n ((List.range n).map fun l => Value.int .i64 (f l))) : IRow W pa n f := fun hn => by
 obtain ⟨g, cap, e⟩ := own_sm h hn
 have e1 : pa = some ⟨g, 0, none⟩ := by injection e
 rw [e] at h
 refine ⟨g, 0, e1, (h.lt g rfl).2, fun j hj => ?_⟩
 rw [Nat.zero_add, h.cellAt j (by omega)]
 simp [hj]
theorem col_wF {p : PgD} {Y : Nat → Int × Int} {k : Nat} (hk : k < p.n) : comS (fun i => p.Z i k) Y p.m = comS (wF p k) Y p.m := comS_congr _ fun i _ => by unfold wF; rw [if_pos hk]
theorem rgt_wF {p : PgD} {Y : Nat → Int × Int} : comS p.Rt Y p.m = comS (wF p p.n) Y p.m := comS_congr _ fun i _ => by unfold wF; rw [if_neg (Nat.lt_irrefl _)]

/-- What the reference's below answers. -/
def BelQ (p : PgD) (Y : Nat → Int × Int) (f : Nat → Int) (v : Bool) (er : Int) : Prop :=
 ((∃ j, j < p.n ∧ comS (wF p j) Y p.m = (0, 0, 5)) ∧ v = false ∧ er = 5) ∨ ((∀ j, j < p.n → (comS (wF p j) Y p.m).2.2 = 0) ∧ (v = true ↔ ∀ j, j < p.n → cmpI (comS (wF p j) Y p.m).1 (comS (wF p j) Y p.m).2.1 (f j) ≤ 0) ∧ er = 0)

structure BeBR (sb mg mo i pn mc : Nat) (sa sd fi o : Int) (Wc : World) (L : Nat → Bool) (v : Nat → Value) (W : World) : Prop where
 st : Below Wc.heap.size Wc W
 f0 : Had L 0 (v 29 = .bool false)
 f1 : Had L 1 (v 30 = .bool false)
 f2 : Had L 2 (v 31 = undef)
 f3 : Had L 3 (v 32 = undef)
 f4 : Had L 4 (v 33 = undef)
 f5 : Had L 5 (v 34 = undef)
 f6 : Had L 6 (v 35 = undef)
 f7 : Had L 7 (v 36 = undef)
 f8 : Had L 8 (v 37 = undef)
 f9 : Had L 9 (v 38 = undef)
 f10 : Had L 10 (v 39 = .bool false)
 f11 : Had L 11 (v 8 = .bool false)
 i8 : L 11 = false → v 8 = .bool false
 w1 : Had L 1 (∀ j ∈ [0], L j = true)
 w2 : Had L 2 (∀ j ∈ [1], L j = true)
 w3 : Had L 3 (∀ j ∈ [1], L j = true)
 w4 : Had L 4 (∀ j ∈ [1], L j = true)
 w5 : Had L 5 (∀ j ∈ [1, 3, 4], L j = true)
 w6 : Had L 6 (∀ j ∈ [1, 5], L j = true)
 w7 : Had L 7 (∀ j ∈ [1, 6], L j = true)
 w8 : Had L 8 (∀ j ∈ [1, 2, 7], L j = true)
 w9 : Had L 9 (∀ j ∈ [1, 8], L j = true)
 w10 : Had L 10 (∀ j ∈ [1, 9], L j = true)
 w11 : Had L 11 (∀ j ∈ [10], L j = true)
structure BeCR (sb mg mo i pn mc : Nat) (sa sd fi o : Int) (Wc : World) (L : Nat → Bool) (v : Nat → Value) (W : World) : Prop where
 st : Below Wc.heap.size Wc W
 f0 : Had L 0 (v 29 = .bool true)
 f1 : Had L 1 (v 30 = .bool true)
 f2 : Had L 2 (v 31 = .agg #[.int .i64 sa, .int .i64 sd])
 f3 : Had L 3 (v 32 = .slice (some ⟨mg, mo, none⟩) (pn) (mc))
 f4 : Had L 4 (v 33 = .int .i64 (i : Int))
 f5 : Had L 5 (v 34 = .pointer (some ⟨mg, mo + i, none⟩))
 f6 : Had L 6 (v 35 = .int .i64 fi)
 f7 : Had L 7 (v 36 = .agg #[.int .i64 fi, .int .i64 1])
 f8 : Had L 8 (v 37 = .int .i64 o)
 f9 : Had L 9 (v 38 = .bool true)
 f10 : Had L 10 (v 39 = .bool true)
 f11 : Had L 11 (v 8 = .bool true)
 i8 : L 11 = false → v 8 = .bool true
 w1 : Had L 1 (∀ j ∈ [0], L j = true)
 w2 : Had L 2 (∀ j ∈ [1], L j = true)
 w3 : Had L 3 (∀ j ∈ [1], L j = true)
 w4 : Had L 4 (∀ j ∈ [1], L j = true)
 w5 : Had L 5 (∀ j ∈ [1, 3, 4], L j = true)
 w6 : Had L 6 (∀ j ∈ [1, 5], L j = true)
 w7 : Had L 7 (∀ j ∈ [1, 6], L j = true)
 w8 : Had L 8 (∀ j ∈ [1, 2, 7], L j = true)
 w9 : Had L 9 (∀ j ∈ [1, 8], L j = true)
 w10 : Had L 10 (∀ j ∈ [1, 9], L j = true)
 w11 : Had L 11 (∀ j ∈ [10], L j = true)
structure BeDR (sb mg mo i pn mc : Nat) (sa sd fi o : Int) (Wc : World) (L : Nat → Bool) (v : Nat → Value) (W : World) : Prop where
 st : Below Wc.heap.size Wc W
 f0 : Had L 0 (v 29 = .bool true)
 f1 : Had L 1 (v 30 = .bool true)
 f2 : Had L 2 (v 31 = .agg #[.int .i64 sa, .int .i64 sd])
 f3 : Had L 3 (v 32 = .slice (some ⟨mg, mo, none⟩) (pn) (mc))
 f4 : Had L 4 (v 33 = .int .i64 (i : Int))
 f5 : Had L 5 (v 34 = .pointer (some ⟨mg, mo + i, none⟩))
 f6 : Had L 6 (v 35 = .int .i64 fi)
 f7 : Had L 7 (v 36 = .agg #[.int .i64 fi, .int .i64 1])
 f8 : Had L 8 (v 37 = .int .i64 o)
 f9 : Had L 9 (v 38 = .bool false)
 f10 : Had L 10 (v 39 = .bool false)
 f11 : Had L 11 (v 8 = .bool false)
 i8 : L 11 = false → v 8 = .bool true
 w1 : Had L 1 (∀ j ∈ [0], L j = true)
 w2 : Had L 2 (∀ j ∈ [1], L j = true)
 w3 : Had L 3 (∀ j ∈ [1], L j = true)
 w4 : Had L 4 (∀ j ∈ [1], L j = true)
 w5 : Had L 5 (∀ j ∈ [1, 3, 4], L j = true)
 w6 : Had L 6 (∀ j ∈ [1, 5], L j = true)
 w7 : Had L 7 (∀ j ∈ [1, 6], L j = true)
 w8 : Had L 8 (∀ j ∈ [1, 2, 7], L j = true)
 w9 : Had L 9 (∀ j ∈ [1, 8], L j = true)
 w10 : Had L 10 (∀ j ∈ [1, 9], L j = true)
 w11 : Had L 11 (∀ j ∈ [10], L j = true)

set_option maxRecDepth 100000 in
set_option maxHeartbeats 32000000 in
theorem rpBelow_any (p : PgD) (hok : p.Ok) (ya : Option Addr) (yc : Nat) (Y : Nat → Int × Int) (ma : Option Addr) (mc : Nat) (f : Nat → Int) (w : World) (hp : p.At w) (hy : IFr w ya p.m Y) (hm : IRow w ma p.n f) (hv : FrV p.m Y) (hf : ∀ j, j < p.n → -1073741824 ≤ f j ∧ f j ≤ 1073741824) :
  Calls Tryz.prog 40 #[p.val, .slice ya p.m yc, .slice ma p.n mc] w fun e w' => Below w.heap.size w w' ∧ ∃ v er, e = .returned (.tuple #[.bool v, .int .i64 er]) ∧ BelQ p Y f v er := by
 unfold PgD.val
 have hn12 := hok.n2
 have hm6 := hok.m2
 have HP := Lib.hid hp
 have HY := Lib.hid hy
 have HM := Lib.hid hm
 have HV := Lib.hid hv
 have HF := Lib.hid hf
 have HOK := Lib.hid hok
 have HO := Lib.hid (fun z (W : World) => Lib.hid (refOf_any z W))
 have hb1 : Below w.heap.size w (w.alloc (Obj.cells #[Value.slice p.ca p.n p.cc, .slice p.ra p.m p.rc] 25)) := (Below.refl _ _).alloc (Nat.le_refl _) _
 obtain ⟨w1, hw1⟩ : ∃ W, W = w.alloc (Obj.cells #[Value.slice p.ca p.n p.cc, .slice p.ra p.m p.rc] 25) := ⟨_, rfl⟩
 obtain ⟨xb, hxb⟩ : ∃ x, x = w.heap.size := ⟨_, rfl⟩
 have hB : Blk w1 xb (.slice p.ca p.n p.cc) (.slice p.ra p.m p.rc) := by rw [hw1, hxb]; exact Blk.new _ _ _ _
 rw [← hw1] at hb1
 have S0 : Hid (Below w.heap.size w w1 ∧ Blk w1 xb (.slice p.ca p.n p.cc) (.slice p.ra p.m p.rc) ∧ BoT true (∀ l, l < 0 → cmpI (comS (wF p l) Y p.m).1 (comS (wF p l) Y p.m).2.1 (f l) ≤ 0) ∧ ∀ l, l < 0 → (comS (wF p l) Y p.m).2.2 = 0) := ⟨hb1, hB, Iff.intro (fun _ l h => by omega) (fun _ => rfl), fun l h => by omega⟩
 clear hb1 hB hp hy hm hv hf hok
 go_enter Tryz.func40, Tryz.ntmps40
 go_upto_region 1 with fail
 rw [← hxb, ← hw1]
 clear hxb hw1
 go_wp2_with fail
 go_loopg [9, 8] p.n (fun g s9 s8 wx => ∃ (i : Nat) (b : Bool), s9 = .int .i64 i ∧ s8 = .bool b ∧ g = p.n - i ∧ i ≤ p.n ∧ Hid (Below w.heap.size w wx ∧ Blk wx xb (.slice p.ca p.n p.cc) (.slice p.ra p.m p.rc) ∧ BoT b (∀ l, l < i → cmpI (comS (wF p l) Y p.m).1 (comS (wF p l) Y p.m).2.1 (f l) ≤ 0) ∧ ∀ l, l < i → (comS (wF p l) Y p.m).2.2 = 0))
 case atStart => exact ⟨0, true, rfl, rfl, rfl, Nat.zero_le _, S0⟩
 case round =>
  clear S0
  obtain ⟨i, b, rfl, rfl, rfl, hi, S⟩ := hrel
  rename World => W1
  by_cases hlt : i < p.n
  ·have wk : IntKind.i64.wrap ((i : Int) + 1) = ((i + 1 : Nat) : Int) := by rw [IntWalk.i64_in _ (by omega)]; omega
   have q0 := S.out.2.1.2.1
   have q1 := S.out.2.1.2.2
   have CCO := Lib.hid (rpColumn_any p HOK.out i hlt W1 (HP.out.on S.out.1))
   unfold PgD.val at CCO
   go_wp2_with fail
   (with_reducible refine ((CCO.out).mono ?_))
   rintro e w2 ⟨hb2, pa, pc, rfl, hown⟩
   have HB2 := Lib.hid hb2
   have CSU := Lib.hid (rpSum_any pa p.m pc (fun l => p.Z l i) ya p.m yc Y w2 (irow_z hown) (HY.out.on (below_on S.out.1 hb2)) (Nat.le_refl _) (by omega) HV.out (fun j hj => by have := HOK.out.z j hj i hlt; omega))
   clear CCO q0 q1 hb2 hown
   go_wp2_with fail
   (with_reducible refine ((CSU.out).mono ?_))
   rintro e w3 ⟨hb3, sa, sd, se, rfl, hse⟩
   have hso := comS_ok (fun j hj => by have := HOK.out.z j hj i hlt; omega) HV.out hse
   rw [col_wF hlt] at hse
   have HSE := Lib.hid hse
   have HB3 := Lib.hid (below_on HB2.out hb3)
   clear CSU hb3 hse HB2
   go_upto_region 6 with fail
   have hb4 : Below w3.heap.size w3 (w3.alloc (Obj.cells #[Value.int .i64 sa, .int .i64 sd] 27)) := (Below.refl _ _).alloc (Nat.le_refl _) _
   obtain ⟨w4, hw4⟩ : ∃ W, W = w3.alloc (Obj.cells #[Value.int .i64 sa, .int .i64 sd] 27) := ⟨_, rfl⟩
   obtain ⟨sb, hsb⟩ : ∃ x, x = w3.heap.size := ⟨_, rfl⟩
   rw [← hsb, ← hw4]
   rw [← hw4] at hb4
   have HSB : Hid (Blk w4 sb (.int .i64 sa) (.int .i64 sd)) := by rw [hw4, hsb]; exact Blk.new _ _ _ _
   have HB4 := Lib.hid (below_on HB3.out hb4)
   have S4 := Lib.hid (And.intro (below_on S.out.1 HB4.out) (S.out.2.1.on HB4.out))
   clear hw4 hsb hb4 HB3 HB4
   rcases hso with ⟨rfl, vs⟩ | ⟨rfl, rfl, rfl⟩
   ·obtain ⟨mg, mo, em, hmg, hmc⟩ := (HM.out.on S4.out.1) (by omega)
    obtain ⟨fi, hfi⟩ : ∃ x, f i = x := ⟨_, rfl⟩
    have hff := HF.out i hlt
    have p1 := hmc i hlt
    rw [hfi] at hff p1
    have HI := Lib.hid hfi
    obtain ⟨o, ho⟩ : ∃ x, cmpI sa sd fi = x := ⟨_, rfl⟩
    have ho2 := ho
    unfold cmpI at ho2
    have CC := fun W => Lib.hid (refCmp_any sa sd fi 1 W vs (vld_one (by omega)) o ho2)
    have HOO := Lib.hid ho
    have LS0 : Hid (w4.cell? ⟨sb, 0, none⟩ = some (.int .i64 sa) ∧ sb < w4.heap.size) := ⟨HSB.out.2.1, HSB.out.1⟩
    have LS1 : Hid (w4.cell? ⟨sb, 1, none⟩ = some (.int .i64 sd) ∧ sb < w4.heap.size) := ⟨HSB.out.2.2, HSB.out.1⟩
    have LM0 : Hid (w4.cell? ⟨mg, mo + i, none⟩ = some (.int .i64 fi) ∧ mg < w4.heap.size) := ⟨p1, hmg⟩
    have HEM := Lib.hid em
    have li : (i : Int) < (p.n : Int) := by omega
    rw [em]
    clear hfi ho ho2 vs hff p1 hmc hmg em
    have hT : Hid (∀ W, Below w4.heap.size w4 W → ∀ b2 : Bool, (b2 = true ↔ b = true ∧ o ≤ 0) → (Below w.heap.size w W ∧ Blk W xb (.slice p.ca p.n p.cc) (.slice p.ra p.m p.rc) ∧ BoT b2 (∀ l, l < i + 1 → cmpI (comS (wF p l) Y p.m).1 (comS (wF p l) Y p.m).2.1 (f l) ≤ 0) ∧ ∀ l, l < i + 1 → (comS (wF p l) Y p.m).2.2 = 0)) := fun W hW b2 h2 => by
     have hcm : cmpI (comS (wF p i) Y p.m).1 (comS (wF p i) Y p.m).2.1 (f i) = o := by rw [HSE.out, HI.out]; exact HOO.out
     refine ⟨below_on S4.out.1 hW, S4.out.2.on hW, Iff.intro (fun h => ?_) (fun h => ?_), fun l hl => ?_⟩
     ·have h3 := h2.1 h
      intro l hl
      by_cases e : l = i
      ·rw [e, hcm]; exact h3.2
      ·exact S.out.2.2.1.1 h3.1 l (by omega)
     ·refine h2.2 ⟨S.out.2.2.1.2 fun l hl => h l (by omega), ?_⟩
      have := h i (by omega)
      rw [hcm] at this
      exact this
     ·by_cases e : l = i
      ·rw [e, HSE.out]
      ·exact S.out.2.2.2 l (by omega)
    clear S S4 HI HOO HSE HSB
    go_upto_region 8 with fail
    cases b
    ·have t1 : (false : Bool) = false := rfl
     refine wp_region_each (fun L A W => ∃ (v : Nat → Value), A = ⟨#[_, _, _, _, _, _, _, _, v 8, _, _, _, _, _, _, _, _, _, _, _, _, _, _, _, _, _, _, _, _, v 29, v 30, v 31, v 32, v 33, v 34, v 35, v 36, v 37, v 38, v 39, _], []⟩ ∧ BeBR sb mg mo i p.n mc sa sd fi o w4 L v W) (by kernel_rfl) (by kernel_rfl) ⟨fun jz => if jz = 29 then u29 else if jz = 30 then u30 else if jz = 31 then u31 else if jz = 32 then u32 else if jz = 33 then u33 else if jz = 34 then u34 else if jz = 35 then u35 else if jz = 36 then u36 else if jz = 37 then u37 else if jz = 38 then u38 else if jz = 39 then u39 else if jz = 8 then .bool false else undef, rfl, ⟨Below.drew (Below.refl _ _), Had.none, Had.none, Had.none, Had.none, Had.none, Had.none, Had.none, Had.none, Had.none, Had.none, Had.none, Had.none, (fun _ => rfl), Had.none, Had.none, Had.none, Had.none, Had.none, Had.none, Had.none, Had.none, Had.none, Had.none, Had.none⟩⟩ (rs := [0, 1, 2, 3, 4, 5, 6, 7, 8, 9, 10, 11]) (by kernel_rfl) ?_ ?_
     ·refine EachOf.cons [] rfl (by kernel_rfl) ?_ ?_
      ·rintro L A W ⟨v, rfl, hR⟩ hi hw K hK
       have ei8 := hR.i8 (hR.w11.not (hR.w10.not (hR.w1.not hi rfl) rfl) rfl)
       have hkz : L 11 = false := (hR.w11.not (hR.w10.not (hR.w1.not hi rfl) rfl) rfl)
       simp only [ei8]
       go_simp
       refine hK.out _ _ ?_
       exact ⟨(fun jz => if jz = 8 then .bool false else if jz = 29 then .bool false else v jz), rfl, ⟨hR.st, (fun _ => rfl), hR.f1.k, hR.f2.k, hR.f3.k, hR.f4.k, hR.f5.k, hR.f6.k, hR.f7.k, hR.f8.k, hR.f9.k, hR.f10.k, (fun h => absurd (upd_back h rfl) (by simp [hkz])), (fun h => rfl), hR.w1.o, hR.w2.o, hR.w3.o, hR.w4.o, hR.w5.o, hR.w6.o, hR.w7.o, hR.w8.o, hR.w9.o, hR.w10.o, hR.w11.o⟩⟩
      refine EachOf.cons [0] rfl (by kernel_rfl) ?_ ?_
      ·rintro L A W ⟨v, rfl, hR⟩ hi hw K hK
       have e0 := hR.f0 (hw 0 (by simp))
       simp only [e0]
       clear e0
       go_simp
       refine hK.out _ _ ?_
       exact ⟨(fun jz => if jz = 29 then .bool false else if jz = 30 then .bool false else v jz), rfl, ⟨hR.st, (fun _ => rfl), (fun _ => rfl), hR.f2.k, hR.f3.k, hR.f4.k, hR.f5.k, hR.f6.k, hR.f7.k, hR.f8.k, hR.f9.k, hR.f10.k, hR.f11.k, (fun h => hR.i8 (upd_false h)), (fun _ j hj => upd_on (hw j hj)), hR.w2.o, hR.w3.o, hR.w4.o, hR.w5.o, hR.w6.o, hR.w7.o, hR.w8.o, hR.w9.o, hR.w10.o, hR.w11.o⟩⟩
      refine EachOf.cons [1] rfl (by kernel_rfl) ?_ ?_
      ·rintro L A W ⟨v, rfl, hR⟩ hi hw K hK
       have e1 := hR.f1 (hw 1 (by simp))
       simp only [e1]
       clear e1
       go_simp
       refine hK.out _ _ ?_
       exact ⟨(fun jz => if jz = 30 then .bool false else if jz = 31 then undef else v jz), rfl, ⟨hR.st, hR.f0.k, (fun _ => rfl), (fun _ => rfl), hR.f3.k, hR.f4.k, hR.f5.k, hR.f6.k, hR.f7.k, hR.f8.k, hR.f9.k, hR.f10.k, hR.f11.k, (fun h => hR.i8 (upd_false h)), hR.w1.o, (fun _ j hj => upd_on (hw j hj)), hR.w3.o, hR.w4.o, hR.w5.o, hR.w6.o, hR.w7.o, hR.w8.o, hR.w9.o, hR.w10.o, hR.w11.o⟩⟩
      refine EachOf.cons [1] rfl (by kernel_rfl) ?_ ?_
      ·rintro L A W ⟨v, rfl, hR⟩ hi hw K hK
       have e1 := hR.f1 (hw 1 (by simp))
       simp only [e1]
       clear e1
       go_simp
       refine hK.out _ _ ?_
       exact ⟨(fun jz => if jz = 30 then .bool false else if jz = 32 then undef else v jz), rfl, ⟨hR.st, hR.f0.k, (fun _ => rfl), hR.f2.k, (fun _ => rfl), hR.f4.k, hR.f5.k, hR.f6.k, hR.f7.k, hR.f8.k, hR.f9.k, hR.f10.k, hR.f11.k, (fun h => hR.i8 (upd_false h)), hR.w1.o, hR.w2.o, (fun _ j hj => upd_on (hw j hj)), hR.w4.o, hR.w5.o, hR.w6.o, hR.w7.o, hR.w8.o, hR.w9.o, hR.w10.o, hR.w11.o⟩⟩
      refine EachOf.cons [1] rfl (by kernel_rfl) ?_ ?_
      ·rintro L A W ⟨v, rfl, hR⟩ hi hw K hK
       have e1 := hR.f1 (hw 1 (by simp))
       simp only [e1]
       clear e1
       go_simp
       refine hK.out _ _ ?_
       exact ⟨(fun jz => if jz = 30 then .bool false else if jz = 33 then undef else v jz), rfl, ⟨hR.st, hR.f0.k, (fun _ => rfl), hR.f2.k, hR.f3.k, (fun _ => rfl), hR.f5.k, hR.f6.k, hR.f7.k, hR.f8.k, hR.f9.k, hR.f10.k, hR.f11.k, (fun h => hR.i8 (upd_false h)), hR.w1.o, hR.w2.o, hR.w3.o, (fun _ j hj => upd_on (hw j hj)), hR.w5.o, hR.w6.o, hR.w7.o, hR.w8.o, hR.w9.o, hR.w10.o, hR.w11.o⟩⟩
      refine EachOf.cons [1, 3, 4] rfl (by kernel_rfl) ?_ ?_
      ·rintro L A W ⟨v, rfl, hR⟩ hi hw K hK
       have e3 := hR.f3 (hw 3 (by simp))
       have e4 := hR.f4 (hw 4 (by simp))
       have e1 := hR.f1 (hw 1 (by simp))
       simp only [e3, e4, e1]
       clear e3 e4 e1
       go_simp
       refine hK.out _ _ ?_
       exact ⟨(fun jz => if jz = 32 then undef else if jz = 33 then undef else if jz = 30 then .bool false else if jz = 34 then undef else v jz), rfl, ⟨hR.st, hR.f0.k, (fun _ => rfl), hR.f2.k, (fun _ => rfl), (fun _ => rfl), (fun _ => rfl), hR.f6.k, hR.f7.k, hR.f8.k, hR.f9.k, hR.f10.k, hR.f11.k, (fun h => hR.i8 (upd_false h)), hR.w1.o, hR.w2.o, hR.w3.o, hR.w4.o, (fun _ j hj => upd_on (hw j hj)), hR.w6.o, hR.w7.o, hR.w8.o, hR.w9.o, hR.w10.o, hR.w11.o⟩⟩
      refine EachOf.cons [1, 5] rfl (by kernel_rfl) ?_ ?_
      ·rintro L A W ⟨v, rfl, hR⟩ hi hw K hK
       have e5 := hR.f5 (hw 5 (by simp))
       have e1 := hR.f1 (hw 1 (by simp))
       simp only [e5, e1]
       clear e5 e1
       go_simp
       refine hK.out _ _ ?_
       exact ⟨(fun jz => if jz = 34 then undef else if jz = 30 then .bool false else if jz = 35 then undef else v jz), rfl, ⟨hR.st, hR.f0.k, (fun _ => rfl), hR.f2.k, hR.f3.k, hR.f4.k, (fun _ => rfl), (fun _ => rfl), hR.f7.k, hR.f8.k, hR.f9.k, hR.f10.k, hR.f11.k, (fun h => hR.i8 (upd_false h)), hR.w1.o, hR.w2.o, hR.w3.o, hR.w4.o, hR.w5.o, (fun _ j hj => upd_on (hw j hj)), hR.w7.o, hR.w8.o, hR.w9.o, hR.w10.o, hR.w11.o⟩⟩
      refine EachOf.cons [1, 6] rfl (by kernel_rfl) ?_ ?_
      ·rintro L A W ⟨v, rfl, hR⟩ hi hw K hK
       have e6 := hR.f6 (hw 6 (by simp))
       have e1 := hR.f1 (hw 1 (by simp))
       simp only [e6, e1]
       clear e6 e1
       go_simp
       refine hK.out _ _ ?_
       exact ⟨(fun jz => if jz = 35 then undef else if jz = 30 then .bool false else if jz = 36 then undef else v jz), rfl, ⟨hR.st, hR.f0.k, (fun _ => rfl), hR.f2.k, hR.f3.k, hR.f4.k, hR.f5.k, (fun _ => rfl), (fun _ => rfl), hR.f8.k, hR.f9.k, hR.f10.k, hR.f11.k, (fun h => hR.i8 (upd_false h)), hR.w1.o, hR.w2.o, hR.w3.o, hR.w4.o, hR.w5.o, hR.w6.o, (fun _ j hj => upd_on (hw j hj)), hR.w8.o, hR.w9.o, hR.w10.o, hR.w11.o⟩⟩
      refine EachOf.cons [1, 2, 7] rfl (by kernel_rfl) ?_ ?_
      ·rintro L A W ⟨v, rfl, hR⟩ hi hw K hK
       have e2 := hR.f2 (hw 2 (by simp))
       have e7 := hR.f7 (hw 7 (by simp))
       have e1 := hR.f1 (hw 1 (by simp))
       simp only [e2, e7, e1]
       clear e2 e7 e1
       go_simp
       refine hK.out _ _ ?_
       exact ⟨(fun jz => if jz = 31 then undef else if jz = 36 then undef else if jz = 30 then .bool false else if jz = 37 then undef else v jz), rfl, ⟨hR.st, hR.f0.k, (fun _ => rfl), (fun _ => rfl), hR.f3.k, hR.f4.k, hR.f5.k, hR.f6.k, (fun _ => rfl), (fun _ => rfl), hR.f9.k, hR.f10.k, hR.f11.k, (fun h => hR.i8 (upd_false h)), hR.w1.o, hR.w2.o, hR.w3.o, hR.w4.o, hR.w5.o, hR.w6.o, hR.w7.o, (fun _ j hj => upd_on (hw j hj)), hR.w9.o, hR.w10.o, hR.w11.o⟩⟩
      refine EachOf.cons [1, 8] rfl (by kernel_rfl) ?_ ?_
      ·rintro L A W ⟨v, rfl, hR⟩ hi hw K hK
       have e8 := hR.f8 (hw 8 (by simp))
       have e1 := hR.f1 (hw 1 (by simp))
       simp only [e8, e1]
       clear e8 e1
       go_simp
       refine hK.out _ _ ?_
       exact ⟨(fun jz => if jz = 37 then undef else if jz = 30 then .bool false else if jz = 38 then undef else v jz), rfl, ⟨hR.st, hR.f0.k, (fun _ => rfl), hR.f2.k, hR.f3.k, hR.f4.k, hR.f5.k, hR.f6.k, hR.f7.k, (fun _ => rfl), (fun _ => rfl), hR.f10.k, hR.f11.k, (fun h => hR.i8 (upd_false h)), hR.w1.o, hR.w2.o, hR.w3.o, hR.w4.o, hR.w5.o, hR.w6.o, hR.w7.o, hR.w8.o, (fun _ j hj => upd_on (hw j hj)), hR.w10.o, hR.w11.o⟩⟩
      refine EachOf.cons [1, 9] rfl (by kernel_rfl) ?_ ?_
      ·rintro L A W ⟨v, rfl, hR⟩ hi hw K hK
       have e1 := hR.f1 (hw 1 (by simp))
       have e9 := hR.f9 (hw 9 (by simp))
       simp only [e1, e9]
       clear e1 e9
       go_simp
       refine hK.out _ _ ?_
       exact ⟨(fun jz => if jz = 30 then .bool false else if jz = 38 then undef else if jz = 39 then .bool false else v jz), rfl, ⟨hR.st, hR.f0.k, (fun _ => rfl), hR.f2.k, hR.f3.k, hR.f4.k, hR.f5.k, hR.f6.k, hR.f7.k, hR.f8.k, (fun _ => rfl), (fun _ => rfl), hR.f11.k, (fun h => hR.i8 (upd_false h)), hR.w1.o, hR.w2.o, hR.w3.o, hR.w4.o, hR.w5.o, hR.w6.o, hR.w7.o, hR.w8.o, hR.w9.o, (fun _ j hj => upd_on (hw j hj)), hR.w11.o⟩⟩
      refine EachOf.cons [10] rfl (by kernel_rfl) ?_ ?_
      ·rintro L A W ⟨v, rfl, hR⟩ hi hw K hK
       have e10 := hR.f10 (hw 10 (by simp))
       simp only [e10]
       clear e10
       go_simp
       refine hK.out _ _ ?_
       exact ⟨(fun jz => if jz = 39 then .bool false else if jz = 8 then .bool false else v jz), rfl, ⟨hR.st, hR.f0.k, hR.f1.k, hR.f2.k, hR.f3.k, hR.f4.k, hR.f5.k, hR.f6.k, hR.f7.k, hR.f8.k, hR.f9.k, (fun _ => rfl), (fun _ => rfl), (fun h => by simp [upd_self] at h), hR.w1.o, hR.w2.o, hR.w3.o, hR.w4.o, hR.w5.o, hR.w6.o, hR.w7.o, hR.w8.o, hR.w9.o, hR.w10.o, (fun _ j hj => upd_on (hw j hj))⟩⟩
      exact EachOf.nil
     rintro L A W ⟨v, rfl, hR⟩ hL
     have e11 := hR.f11 (hL 11 (by simp))
     simp only [e11]
     have T := Lib.hid (hT.out W hR.st false ⟨fun h => (by cases h), fun h => absurd h.1 (by decide)⟩)
     clear e11 hR hL LS0 LS1 LM0 CC hT
     go_wp2_with fail
     rw [← HEM.out]
     go_roundg (p.n - (i + 1))
     case measure => omega
     case rel => exact ⟨i + 1, false, rfl, rfl, rfl, by omega, T⟩
    ·by_cases h0 : o ≤ 0
     ·have t1 : decide (o ≤ 0) = true := decide_eq_true h0
      refine wp_region_each (fun L A W => ∃ (v : Nat → Value), A = ⟨#[_, _, _, _, _, _, _, _, v 8, _, _, _, _, _, _, _, _, _, _, _, _, _, _, _, _, _, _, _, _, v 29, v 30, v 31, v 32, v 33, v 34, v 35, v 36, v 37, v 38, v 39, _], []⟩ ∧ BeCR sb mg mo i p.n mc sa sd fi o w4 L v W) (by kernel_rfl) (by kernel_rfl) ⟨fun jz => if jz = 29 then u29 else if jz = 30 then u30 else if jz = 31 then u31 else if jz = 32 then u32 else if jz = 33 then u33 else if jz = 34 then u34 else if jz = 35 then u35 else if jz = 36 then u36 else if jz = 37 then u37 else if jz = 38 then u38 else if jz = 39 then u39 else if jz = 8 then .bool true else undef, rfl, ⟨Below.drew (Below.refl _ _), Had.none, Had.none, Had.none, Had.none, Had.none, Had.none, Had.none, Had.none, Had.none, Had.none, Had.none, Had.none, (fun _ => rfl), Had.none, Had.none, Had.none, Had.none, Had.none, Had.none, Had.none, Had.none, Had.none, Had.none, Had.none⟩⟩ (rs := [0, 1, 2, 3, 4, 5, 6, 7, 8, 9, 10, 11]) (by kernel_rfl) ?_ ?_
      ·refine EachOf.cons [] rfl (by kernel_rfl) ?_ ?_
       ·rintro L A W ⟨v, rfl, hR⟩ hi hw K hK
        have ei8 := hR.i8 (hR.w11.not (hR.w10.not (hR.w1.not hi rfl) rfl) rfl)
        have hkz : L 11 = false := (hR.w11.not (hR.w10.not (hR.w1.not hi rfl) rfl) rfl)
        simp only [ei8]
        go_simp
        refine hK.out _ _ ?_
        exact ⟨(fun jz => if jz = 8 then .bool true else if jz = 29 then .bool true else v jz), rfl, ⟨hR.st, (fun _ => rfl), hR.f1.k, hR.f2.k, hR.f3.k, hR.f4.k, hR.f5.k, hR.f6.k, hR.f7.k, hR.f8.k, hR.f9.k, hR.f10.k, (fun h => absurd (upd_back h rfl) (by simp [hkz])), (fun h => rfl), hR.w1.o, hR.w2.o, hR.w3.o, hR.w4.o, hR.w5.o, hR.w6.o, hR.w7.o, hR.w8.o, hR.w9.o, hR.w10.o, hR.w11.o⟩⟩
       refine EachOf.cons [0] rfl (by kernel_rfl) ?_ ?_
       ·rintro L A W ⟨v, rfl, hR⟩ hi hw K hK
        have e0 := hR.f0 (hw 0 (by simp))
        simp only [e0]
        clear e0
        go_simp
        refine hK.out _ _ ?_
        exact ⟨(fun jz => if jz = 29 then .bool true else if jz = 30 then .bool true else v jz), rfl, ⟨hR.st, (fun _ => rfl), (fun _ => rfl), hR.f2.k, hR.f3.k, hR.f4.k, hR.f5.k, hR.f6.k, hR.f7.k, hR.f8.k, hR.f9.k, hR.f10.k, hR.f11.k, (fun h => hR.i8 (upd_false h)), (fun _ j hj => upd_on (hw j hj)), hR.w2.o, hR.w3.o, hR.w4.o, hR.w5.o, hR.w6.o, hR.w7.o, hR.w8.o, hR.w9.o, hR.w10.o, hR.w11.o⟩⟩
       refine EachOf.cons [1] rfl (by kernel_rfl) ?_ ?_
       ·rintro L A W ⟨v, rfl, hR⟩ hi hw K hK
        have e1 := hR.f1 (hw 1 (by simp))
        simp only [e1]
        clear e1
        have q0 := (hR.st.cell (p := ⟨sb, 0, none⟩) LS0.out.2).trans LS0.out.1
        have q1 := (hR.st.cell (p := ⟨sb, 1, none⟩) LS1.out.2).trans LS1.out.1
        go_simp
        refine hK.out _ _ ?_
        exact ⟨(fun jz => if jz = 30 then .bool true else if jz = 31 then .agg #[.int .i64 sa, .int .i64 sd] else v jz), rfl, ⟨hR.st, hR.f0.k, (fun _ => rfl), (fun _ => rfl), hR.f3.k, hR.f4.k, hR.f5.k, hR.f6.k, hR.f7.k, hR.f8.k, hR.f9.k, hR.f10.k, hR.f11.k, (fun h => hR.i8 (upd_false h)), hR.w1.o, (fun _ j hj => upd_on (hw j hj)), hR.w3.o, hR.w4.o, hR.w5.o, hR.w6.o, hR.w7.o, hR.w8.o, hR.w9.o, hR.w10.o, hR.w11.o⟩⟩
       refine EachOf.cons [1] rfl (by kernel_rfl) ?_ ?_
       ·rintro L A W ⟨v, rfl, hR⟩ hi hw K hK
        have e1 := hR.f1 (hw 1 (by simp))
        simp only [e1]
        clear e1
        go_simp
        refine hK.out _ _ ?_
        exact ⟨(fun jz => if jz = 30 then .bool true else if jz = 32 then .slice (some ⟨mg, mo, none⟩) (p.n) (mc) else v jz), rfl, ⟨hR.st, hR.f0.k, (fun _ => rfl), hR.f2.k, (fun _ => rfl), hR.f4.k, hR.f5.k, hR.f6.k, hR.f7.k, hR.f8.k, hR.f9.k, hR.f10.k, hR.f11.k, (fun h => hR.i8 (upd_false h)), hR.w1.o, hR.w2.o, (fun _ j hj => upd_on (hw j hj)), hR.w4.o, hR.w5.o, hR.w6.o, hR.w7.o, hR.w8.o, hR.w9.o, hR.w10.o, hR.w11.o⟩⟩
       refine EachOf.cons [1] rfl (by kernel_rfl) ?_ ?_
       ·rintro L A W ⟨v, rfl, hR⟩ hi hw K hK
        have e1 := hR.f1 (hw 1 (by simp))
        simp only [e1]
        clear e1
        go_simp
        refine hK.out _ _ ?_
        exact ⟨(fun jz => if jz = 30 then .bool true else if jz = 33 then .int .i64 (i : Int) else v jz), rfl, ⟨hR.st, hR.f0.k, (fun _ => rfl), hR.f2.k, hR.f3.k, (fun _ => rfl), hR.f5.k, hR.f6.k, hR.f7.k, hR.f8.k, hR.f9.k, hR.f10.k, hR.f11.k, (fun h => hR.i8 (upd_false h)), hR.w1.o, hR.w2.o, hR.w3.o, (fun _ j hj => upd_on (hw j hj)), hR.w5.o, hR.w6.o, hR.w7.o, hR.w8.o, hR.w9.o, hR.w10.o, hR.w11.o⟩⟩
       refine EachOf.cons [1, 3, 4] rfl (by kernel_rfl) ?_ ?_
       ·rintro L A W ⟨v, rfl, hR⟩ hi hw K hK
        have e3 := hR.f3 (hw 3 (by simp))
        have e4 := hR.f4 (hw 4 (by simp))
        have e1 := hR.f1 (hw 1 (by simp))
        simp only [e3, e4, e1]
        clear e3 e4 e1
        go_simp
        refine hK.out _ _ ?_
        exact ⟨(fun jz => if jz = 32 then .slice (some ⟨mg, mo, none⟩) (p.n) (mc) else if jz = 33 then .int .i64 (i : Int) else if jz = 30 then .bool true else if jz = 34 then .pointer (some ⟨mg, mo + i, none⟩) else v jz), rfl, ⟨hR.st, hR.f0.k, (fun _ => rfl), hR.f2.k, (fun _ => rfl), (fun _ => rfl), (fun _ => rfl), hR.f6.k, hR.f7.k, hR.f8.k, hR.f9.k, hR.f10.k, hR.f11.k, (fun h => hR.i8 (upd_false h)), hR.w1.o, hR.w2.o, hR.w3.o, hR.w4.o, (fun _ j hj => upd_on (hw j hj)), hR.w6.o, hR.w7.o, hR.w8.o, hR.w9.o, hR.w10.o, hR.w11.o⟩⟩
       refine EachOf.cons [1, 5] rfl (by kernel_rfl) ?_ ?_
       ·rintro L A W ⟨v, rfl, hR⟩ hi hw K hK
        have e5 := hR.f5 (hw 5 (by simp))
        have e1 := hR.f1 (hw 1 (by simp))
        simp only [e5, e1]
        clear e5 e1
        have q0 := (hR.st.cell (p := ⟨mg, mo + i, none⟩) LM0.out.2).trans LM0.out.1
        go_simp
        refine hK.out _ _ ?_
        exact ⟨(fun jz => if jz = 34 then .pointer (some ⟨mg, mo + i, none⟩) else if jz = 30 then .bool true else if jz = 35 then .int .i64 fi else v jz), rfl, ⟨hR.st, hR.f0.k, (fun _ => rfl), hR.f2.k, hR.f3.k, hR.f4.k, (fun _ => rfl), (fun _ => rfl), hR.f7.k, hR.f8.k, hR.f9.k, hR.f10.k, hR.f11.k, (fun h => hR.i8 (upd_false h)), hR.w1.o, hR.w2.o, hR.w3.o, hR.w4.o, hR.w5.o, (fun _ j hj => upd_on (hw j hj)), hR.w7.o, hR.w8.o, hR.w9.o, hR.w10.o, hR.w11.o⟩⟩
       refine EachOf.cons [1, 6] rfl (by kernel_rfl) ?_ ?_
       ·rintro L A W ⟨v, rfl, hR⟩ hi hw K hK
        have e6 := hR.f6 (hw 6 (by simp))
        have e1 := hR.f1 (hw 1 (by simp))
        simp only [e6, e1]
        clear e6 e1
        go_simp
        go_at_call 77
        (with_reducible refine (((HO.out fi W)).out.mono ?_))
        rintro e w2 ⟨rfl, hb⟩
        go_simp
        refine hK.out _ _ ?_
        exact ⟨(fun jz => if jz = 35 then .int .i64 fi else if jz = 30 then .bool true else if jz = 36 then .agg #[.int .i64 fi, .int .i64 1] else v jz), rfl, ⟨below_on hR.st hb, hR.f0.k, (fun _ => rfl), hR.f2.k, hR.f3.k, hR.f4.k, hR.f5.k, (fun _ => rfl), (fun _ => rfl), hR.f8.k, hR.f9.k, hR.f10.k, hR.f11.k, (fun h => hR.i8 (upd_false h)), hR.w1.o, hR.w2.o, hR.w3.o, hR.w4.o, hR.w5.o, hR.w6.o, (fun _ j hj => upd_on (hw j hj)), hR.w8.o, hR.w9.o, hR.w10.o, hR.w11.o⟩⟩
       refine EachOf.cons [1, 2, 7] rfl (by kernel_rfl) ?_ ?_
       ·rintro L A W ⟨v, rfl, hR⟩ hi hw K hK
        have e2 := hR.f2 (hw 2 (by simp))
        have e7 := hR.f7 (hw 7 (by simp))
        have e1 := hR.f1 (hw 1 (by simp))
        simp only [e2, e7, e1]
        clear e2 e7 e1
        go_simp
        go_at_call 76
        (with_reducible refine (((CC W)).out.mono ?_))
        rintro e w2 ⟨rfl, hb⟩
        go_simp
        refine hK.out _ _ ?_
        exact ⟨(fun jz => if jz = 31 then .agg #[.int .i64 sa, .int .i64 sd] else if jz = 36 then .agg #[.int .i64 fi, .int .i64 1] else if jz = 30 then .bool true else if jz = 37 then .int .i64 o else v jz), rfl, ⟨below_on hR.st hb, hR.f0.k, (fun _ => rfl), (fun _ => rfl), hR.f3.k, hR.f4.k, hR.f5.k, hR.f6.k, (fun _ => rfl), (fun _ => rfl), hR.f9.k, hR.f10.k, hR.f11.k, (fun h => hR.i8 (upd_false h)), hR.w1.o, hR.w2.o, hR.w3.o, hR.w4.o, hR.w5.o, hR.w6.o, hR.w7.o, (fun _ j hj => upd_on (hw j hj)), hR.w9.o, hR.w10.o, hR.w11.o⟩⟩
       refine EachOf.cons [1, 8] rfl (by kernel_rfl) ?_ ?_
       ·rintro L A W ⟨v, rfl, hR⟩ hi hw K hK
        have e8 := hR.f8 (hw 8 (by simp))
        have e1 := hR.f1 (hw 1 (by simp))
        simp only [e8, e1]
        clear e8 e1
        go_simp
        refine hK.out _ _ ?_
        exact ⟨(fun jz => if jz = 37 then .int .i64 o else if jz = 30 then .bool true else if jz = 38 then .bool true else v jz), rfl, ⟨hR.st, hR.f0.k, (fun _ => rfl), hR.f2.k, hR.f3.k, hR.f4.k, hR.f5.k, hR.f6.k, hR.f7.k, (fun _ => rfl), (fun _ => rfl), hR.f10.k, hR.f11.k, (fun h => hR.i8 (upd_false h)), hR.w1.o, hR.w2.o, hR.w3.o, hR.w4.o, hR.w5.o, hR.w6.o, hR.w7.o, hR.w8.o, (fun _ j hj => upd_on (hw j hj)), hR.w10.o, hR.w11.o⟩⟩
       refine EachOf.cons [1, 9] rfl (by kernel_rfl) ?_ ?_
       ·rintro L A W ⟨v, rfl, hR⟩ hi hw K hK
        have e1 := hR.f1 (hw 1 (by simp))
        have e9 := hR.f9 (hw 9 (by simp))
        simp only [e1, e9]
        clear e1 e9
        go_simp
        refine hK.out _ _ ?_
        exact ⟨(fun jz => if jz = 30 then .bool true else if jz = 38 then .bool true else if jz = 39 then .bool true else v jz), rfl, ⟨hR.st, hR.f0.k, (fun _ => rfl), hR.f2.k, hR.f3.k, hR.f4.k, hR.f5.k, hR.f6.k, hR.f7.k, hR.f8.k, (fun _ => rfl), (fun _ => rfl), hR.f11.k, (fun h => hR.i8 (upd_false h)), hR.w1.o, hR.w2.o, hR.w3.o, hR.w4.o, hR.w5.o, hR.w6.o, hR.w7.o, hR.w8.o, hR.w9.o, (fun _ j hj => upd_on (hw j hj)), hR.w11.o⟩⟩
       refine EachOf.cons [10] rfl (by kernel_rfl) ?_ ?_
       ·rintro L A W ⟨v, rfl, hR⟩ hi hw K hK
        have e10 := hR.f10 (hw 10 (by simp))
        simp only [e10]
        clear e10
        go_simp
        refine hK.out _ _ ?_
        exact ⟨(fun jz => if jz = 39 then .bool true else if jz = 8 then .bool true else v jz), rfl, ⟨hR.st, hR.f0.k, hR.f1.k, hR.f2.k, hR.f3.k, hR.f4.k, hR.f5.k, hR.f6.k, hR.f7.k, hR.f8.k, hR.f9.k, (fun _ => rfl), (fun _ => rfl), (fun h => by simp [upd_self] at h), hR.w1.o, hR.w2.o, hR.w3.o, hR.w4.o, hR.w5.o, hR.w6.o, hR.w7.o, hR.w8.o, hR.w9.o, hR.w10.o, (fun _ j hj => upd_on (hw j hj))⟩⟩
       exact EachOf.nil
      rintro L A W ⟨v, rfl, hR⟩ hL
      have e11 := hR.f11 (hL 11 (by simp))
      simp only [e11]
      have T := Lib.hid (hT.out W hR.st true ⟨fun _ => ⟨rfl, h0⟩, fun _ => rfl⟩)
      clear e11 hR hL LS0 LS1 LM0 CC hT
      go_wp2_with fail
      rw [← HEM.out]
      go_roundg (p.n - (i + 1))
      case measure => omega
      case rel => exact ⟨i + 1, true, rfl, rfl, rfl, by omega, T⟩
     ·have t1 : decide (o ≤ 0) = false := decide_eq_false h0
      refine wp_region_each (fun L A W => ∃ (v : Nat → Value), A = ⟨#[_, _, _, _, _, _, _, _, v 8, _, _, _, _, _, _, _, _, _, _, _, _, _, _, _, _, _, _, _, _, v 29, v 30, v 31, v 32, v 33, v 34, v 35, v 36, v 37, v 38, v 39, _], []⟩ ∧ BeDR sb mg mo i p.n mc sa sd fi o w4 L v W) (by kernel_rfl) (by kernel_rfl) ⟨fun jz => if jz = 29 then u29 else if jz = 30 then u30 else if jz = 31 then u31 else if jz = 32 then u32 else if jz = 33 then u33 else if jz = 34 then u34 else if jz = 35 then u35 else if jz = 36 then u36 else if jz = 37 then u37 else if jz = 38 then u38 else if jz = 39 then u39 else if jz = 8 then .bool true else undef, rfl, ⟨Below.drew (Below.refl _ _), Had.none, Had.none, Had.none, Had.none, Had.none, Had.none, Had.none, Had.none, Had.none, Had.none, Had.none, Had.none, (fun _ => rfl), Had.none, Had.none, Had.none, Had.none, Had.none, Had.none, Had.none, Had.none, Had.none, Had.none, Had.none⟩⟩ (rs := [0, 1, 2, 3, 4, 5, 6, 7, 8, 9, 10, 11]) (by kernel_rfl) ?_ ?_
      ·refine EachOf.cons [] rfl (by kernel_rfl) ?_ ?_
       ·rintro L A W ⟨v, rfl, hR⟩ hi hw K hK
        have ei8 := hR.i8 (hR.w11.not (hR.w10.not (hR.w1.not hi rfl) rfl) rfl)
        have hkz : L 11 = false := (hR.w11.not (hR.w10.not (hR.w1.not hi rfl) rfl) rfl)
        simp only [ei8]
        go_simp
        refine hK.out _ _ ?_
        exact ⟨(fun jz => if jz = 8 then .bool true else if jz = 29 then .bool true else v jz), rfl, ⟨hR.st, (fun _ => rfl), hR.f1.k, hR.f2.k, hR.f3.k, hR.f4.k, hR.f5.k, hR.f6.k, hR.f7.k, hR.f8.k, hR.f9.k, hR.f10.k, (fun h => absurd (upd_back h rfl) (by simp [hkz])), (fun h => rfl), hR.w1.o, hR.w2.o, hR.w3.o, hR.w4.o, hR.w5.o, hR.w6.o, hR.w7.o, hR.w8.o, hR.w9.o, hR.w10.o, hR.w11.o⟩⟩
       refine EachOf.cons [0] rfl (by kernel_rfl) ?_ ?_
       ·rintro L A W ⟨v, rfl, hR⟩ hi hw K hK
        have e0 := hR.f0 (hw 0 (by simp))
        simp only [e0]
        clear e0
        go_simp
        refine hK.out _ _ ?_
        exact ⟨(fun jz => if jz = 29 then .bool true else if jz = 30 then .bool true else v jz), rfl, ⟨hR.st, (fun _ => rfl), (fun _ => rfl), hR.f2.k, hR.f3.k, hR.f4.k, hR.f5.k, hR.f6.k, hR.f7.k, hR.f8.k, hR.f9.k, hR.f10.k, hR.f11.k, (fun h => hR.i8 (upd_false h)), (fun _ j hj => upd_on (hw j hj)), hR.w2.o, hR.w3.o, hR.w4.o, hR.w5.o, hR.w6.o, hR.w7.o, hR.w8.o, hR.w9.o, hR.w10.o, hR.w11.o⟩⟩
       refine EachOf.cons [1] rfl (by kernel_rfl) ?_ ?_
       ·rintro L A W ⟨v, rfl, hR⟩ hi hw K hK
        have e1 := hR.f1 (hw 1 (by simp))
        simp only [e1]
        clear e1
        have q0 := (hR.st.cell (p := ⟨sb, 0, none⟩) LS0.out.2).trans LS0.out.1
        have q1 := (hR.st.cell (p := ⟨sb, 1, none⟩) LS1.out.2).trans LS1.out.1
        go_simp
        refine hK.out _ _ ?_
        exact ⟨(fun jz => if jz = 30 then .bool true else if jz = 31 then .agg #[.int .i64 sa, .int .i64 sd] else v jz), rfl, ⟨hR.st, hR.f0.k, (fun _ => rfl), (fun _ => rfl), hR.f3.k, hR.f4.k, hR.f5.k, hR.f6.k, hR.f7.k, hR.f8.k, hR.f9.k, hR.f10.k, hR.f11.k, (fun h => hR.i8 (upd_false h)), hR.w1.o, (fun _ j hj => upd_on (hw j hj)), hR.w3.o, hR.w4.o, hR.w5.o, hR.w6.o, hR.w7.o, hR.w8.o, hR.w9.o, hR.w10.o, hR.w11.o⟩⟩
       refine EachOf.cons [1] rfl (by kernel_rfl) ?_ ?_
       ·rintro L A W ⟨v, rfl, hR⟩ hi hw K hK
        have e1 := hR.f1 (hw 1 (by simp))
        simp only [e1]
        clear e1
        go_simp
        refine hK.out _ _ ?_
        exact ⟨(fun jz => if jz = 30 then .bool true else if jz = 32 then .slice (some ⟨mg, mo, none⟩) (p.n) (mc) else v jz), rfl, ⟨hR.st, hR.f0.k, (fun _ => rfl), hR.f2.k, (fun _ => rfl), hR.f4.k, hR.f5.k, hR.f6.k, hR.f7.k, hR.f8.k, hR.f9.k, hR.f10.k, hR.f11.k, (fun h => hR.i8 (upd_false h)), hR.w1.o, hR.w2.o, (fun _ j hj => upd_on (hw j hj)), hR.w4.o, hR.w5.o, hR.w6.o, hR.w7.o, hR.w8.o, hR.w9.o, hR.w10.o, hR.w11.o⟩⟩
       refine EachOf.cons [1] rfl (by kernel_rfl) ?_ ?_
       ·rintro L A W ⟨v, rfl, hR⟩ hi hw K hK
        have e1 := hR.f1 (hw 1 (by simp))
        simp only [e1]
        clear e1
        go_simp
        refine hK.out _ _ ?_
        exact ⟨(fun jz => if jz = 30 then .bool true else if jz = 33 then .int .i64 (i : Int) else v jz), rfl, ⟨hR.st, hR.f0.k, (fun _ => rfl), hR.f2.k, hR.f3.k, (fun _ => rfl), hR.f5.k, hR.f6.k, hR.f7.k, hR.f8.k, hR.f9.k, hR.f10.k, hR.f11.k, (fun h => hR.i8 (upd_false h)), hR.w1.o, hR.w2.o, hR.w3.o, (fun _ j hj => upd_on (hw j hj)), hR.w5.o, hR.w6.o, hR.w7.o, hR.w8.o, hR.w9.o, hR.w10.o, hR.w11.o⟩⟩
       refine EachOf.cons [1, 3, 4] rfl (by kernel_rfl) ?_ ?_
       ·rintro L A W ⟨v, rfl, hR⟩ hi hw K hK
        have e3 := hR.f3 (hw 3 (by simp))
        have e4 := hR.f4 (hw 4 (by simp))
        have e1 := hR.f1 (hw 1 (by simp))
        simp only [e3, e4, e1]
        clear e3 e4 e1
        go_simp
        refine hK.out _ _ ?_
        exact ⟨(fun jz => if jz = 32 then .slice (some ⟨mg, mo, none⟩) (p.n) (mc) else if jz = 33 then .int .i64 (i : Int) else if jz = 30 then .bool true else if jz = 34 then .pointer (some ⟨mg, mo + i, none⟩) else v jz), rfl, ⟨hR.st, hR.f0.k, (fun _ => rfl), hR.f2.k, (fun _ => rfl), (fun _ => rfl), (fun _ => rfl), hR.f6.k, hR.f7.k, hR.f8.k, hR.f9.k, hR.f10.k, hR.f11.k, (fun h => hR.i8 (upd_false h)), hR.w1.o, hR.w2.o, hR.w3.o, hR.w4.o, (fun _ j hj => upd_on (hw j hj)), hR.w6.o, hR.w7.o, hR.w8.o, hR.w9.o, hR.w10.o, hR.w11.o⟩⟩
       refine EachOf.cons [1, 5] rfl (by kernel_rfl) ?_ ?_
       ·rintro L A W ⟨v, rfl, hR⟩ hi hw K hK
        have e5 := hR.f5 (hw 5 (by simp))
        have e1 := hR.f1 (hw 1 (by simp))
        simp only [e5, e1]
        clear e5 e1
        have q0 := (hR.st.cell (p := ⟨mg, mo + i, none⟩) LM0.out.2).trans LM0.out.1
        go_simp
        refine hK.out _ _ ?_
        exact ⟨(fun jz => if jz = 34 then .pointer (some ⟨mg, mo + i, none⟩) else if jz = 30 then .bool true else if jz = 35 then .int .i64 fi else v jz), rfl, ⟨hR.st, hR.f0.k, (fun _ => rfl), hR.f2.k, hR.f3.k, hR.f4.k, (fun _ => rfl), (fun _ => rfl), hR.f7.k, hR.f8.k, hR.f9.k, hR.f10.k, hR.f11.k, (fun h => hR.i8 (upd_false h)), hR.w1.o, hR.w2.o, hR.w3.o, hR.w4.o, hR.w5.o, (fun _ j hj => upd_on (hw j hj)), hR.w7.o, hR.w8.o, hR.w9.o, hR.w10.o, hR.w11.o⟩⟩
       refine EachOf.cons [1, 6] rfl (by kernel_rfl) ?_ ?_
       ·rintro L A W ⟨v, rfl, hR⟩ hi hw K hK
        have e6 := hR.f6 (hw 6 (by simp))
        have e1 := hR.f1 (hw 1 (by simp))
        simp only [e6, e1]
        clear e6 e1
        go_simp
        go_at_call 77
        (with_reducible refine (((HO.out fi W)).out.mono ?_))
        rintro e w2 ⟨rfl, hb⟩
        go_simp
        refine hK.out _ _ ?_
        exact ⟨(fun jz => if jz = 35 then .int .i64 fi else if jz = 30 then .bool true else if jz = 36 then .agg #[.int .i64 fi, .int .i64 1] else v jz), rfl, ⟨below_on hR.st hb, hR.f0.k, (fun _ => rfl), hR.f2.k, hR.f3.k, hR.f4.k, hR.f5.k, (fun _ => rfl), (fun _ => rfl), hR.f8.k, hR.f9.k, hR.f10.k, hR.f11.k, (fun h => hR.i8 (upd_false h)), hR.w1.o, hR.w2.o, hR.w3.o, hR.w4.o, hR.w5.o, hR.w6.o, (fun _ j hj => upd_on (hw j hj)), hR.w8.o, hR.w9.o, hR.w10.o, hR.w11.o⟩⟩
       refine EachOf.cons [1, 2, 7] rfl (by kernel_rfl) ?_ ?_
       ·rintro L A W ⟨v, rfl, hR⟩ hi hw K hK
        have e2 := hR.f2 (hw 2 (by simp))
        have e7 := hR.f7 (hw 7 (by simp))
        have e1 := hR.f1 (hw 1 (by simp))
        simp only [e2, e7, e1]
        clear e2 e7 e1
        go_simp
        go_at_call 76
        (with_reducible refine (((CC W)).out.mono ?_))
        rintro e w2 ⟨rfl, hb⟩
        go_simp
        refine hK.out _ _ ?_
        exact ⟨(fun jz => if jz = 31 then .agg #[.int .i64 sa, .int .i64 sd] else if jz = 36 then .agg #[.int .i64 fi, .int .i64 1] else if jz = 30 then .bool true else if jz = 37 then .int .i64 o else v jz), rfl, ⟨below_on hR.st hb, hR.f0.k, (fun _ => rfl), (fun _ => rfl), hR.f3.k, hR.f4.k, hR.f5.k, hR.f6.k, (fun _ => rfl), (fun _ => rfl), hR.f9.k, hR.f10.k, hR.f11.k, (fun h => hR.i8 (upd_false h)), hR.w1.o, hR.w2.o, hR.w3.o, hR.w4.o, hR.w5.o, hR.w6.o, hR.w7.o, (fun _ j hj => upd_on (hw j hj)), hR.w9.o, hR.w10.o, hR.w11.o⟩⟩
       refine EachOf.cons [1, 8] rfl (by kernel_rfl) ?_ ?_
       ·rintro L A W ⟨v, rfl, hR⟩ hi hw K hK
        have e8 := hR.f8 (hw 8 (by simp))
        have e1 := hR.f1 (hw 1 (by simp))
        simp only [e8, e1]
        clear e8 e1
        go_simp
        refine hK.out _ _ ?_
        exact ⟨(fun jz => if jz = 37 then .int .i64 o else if jz = 30 then .bool true else if jz = 38 then .bool false else v jz), rfl, ⟨hR.st, hR.f0.k, (fun _ => rfl), hR.f2.k, hR.f3.k, hR.f4.k, hR.f5.k, hR.f6.k, hR.f7.k, (fun _ => rfl), (fun _ => rfl), hR.f10.k, hR.f11.k, (fun h => hR.i8 (upd_false h)), hR.w1.o, hR.w2.o, hR.w3.o, hR.w4.o, hR.w5.o, hR.w6.o, hR.w7.o, hR.w8.o, (fun _ j hj => upd_on (hw j hj)), hR.w10.o, hR.w11.o⟩⟩
       refine EachOf.cons [1, 9] rfl (by kernel_rfl) ?_ ?_
       ·rintro L A W ⟨v, rfl, hR⟩ hi hw K hK
        have e1 := hR.f1 (hw 1 (by simp))
        have e9 := hR.f9 (hw 9 (by simp))
        simp only [e1, e9]
        clear e1 e9
        go_simp
        refine hK.out _ _ ?_
        exact ⟨(fun jz => if jz = 30 then .bool true else if jz = 38 then .bool false else if jz = 39 then .bool false else v jz), rfl, ⟨hR.st, hR.f0.k, (fun _ => rfl), hR.f2.k, hR.f3.k, hR.f4.k, hR.f5.k, hR.f6.k, hR.f7.k, hR.f8.k, (fun _ => rfl), (fun _ => rfl), hR.f11.k, (fun h => hR.i8 (upd_false h)), hR.w1.o, hR.w2.o, hR.w3.o, hR.w4.o, hR.w5.o, hR.w6.o, hR.w7.o, hR.w8.o, hR.w9.o, (fun _ j hj => upd_on (hw j hj)), hR.w11.o⟩⟩
       refine EachOf.cons [10] rfl (by kernel_rfl) ?_ ?_
       ·rintro L A W ⟨v, rfl, hR⟩ hi hw K hK
        have e10 := hR.f10 (hw 10 (by simp))
        simp only [e10]
        clear e10
        go_simp
        refine hK.out _ _ ?_
        exact ⟨(fun jz => if jz = 39 then .bool false else if jz = 8 then .bool false else v jz), rfl, ⟨hR.st, hR.f0.k, hR.f1.k, hR.f2.k, hR.f3.k, hR.f4.k, hR.f5.k, hR.f6.k, hR.f7.k, hR.f8.k, hR.f9.k, (fun _ => rfl), (fun _ => rfl), (fun h => by simp [upd_self] at h), hR.w1.o, hR.w2.o, hR.w3.o, hR.w4.o, hR.w5.o, hR.w6.o, hR.w7.o, hR.w8.o, hR.w9.o, hR.w10.o, (fun _ j hj => upd_on (hw j hj))⟩⟩
       exact EachOf.nil
      rintro L A W ⟨v, rfl, hR⟩ hL
      have e11 := hR.f11 (hL 11 (by simp))
      simp only [e11]
      have T := Lib.hid (hT.out W hR.st false ⟨fun h => (by cases h), fun h => absurd h.2 h0⟩)
      clear e11 hR hL LS0 LS1 LM0 CC hT
      go_wp2_with fail
      rw [← HEM.out]
      go_roundg (p.n - (i + 1))
      case measure => omega
      case rel => exact ⟨i + 1, false, rfl, rfl, rfl, by omega, T⟩
   ·have HE : Hid (comS (wF p i) Y p.m = (0, 0, 5)) := HSE.out
    clear HSE HSB
    go_wp2_with fail
    go_ret2
    exact ⟨S4.out.1, false, 5, rfl, .inl ⟨⟨i, hlt, HE.out⟩, rfl, rfl⟩⟩
  ·have e : i = p.n := by omega
   subst e
   go_wp2_with fail
   go_ret2
   exact ⟨S.out.1, b, 0, rfl, .inr ⟨S.out.2.2.2, ⟨fun h => S.out.2.2.1.1 h, fun h => S.out.2.2.1.2 h⟩, rfl⟩⟩

/-- What the reference's Proves answers. -/
def PrvQ (p : PgD) (va vd : Int) (Y : Nat → Int × Int) (v : Bool) (er : Int) : Prop :=
 ((∃ j, j < p.n + 1 ∧ comS (wF p j) Y p.m = (0, 0, 5)) ∧ er = 5) ∨ ((∀ j, j < p.n + 1 → (comS (wF p j) Y p.m).2.2 = 0) ∧ (v = true ↔ (∀ j, j < p.n → cmpI (comS (wF p j) Y p.m).1 (comS (wF p j) Y p.m).2.1 (p.C j) ≤ 0) ∧ comS (wF p p.n) Y p.m = (va, vd, 0) ∧ RgS p Y) ∧ er = 0)

set_option maxRecDepth 100000 in
set_option maxHeartbeats 32000000 in
theorem rpProves_any (p : PgD) (hok : p.Ok) (va vd : Int) (ya : Option Addr) (yc : Nat) (Y : Nat → Int × Int) (w : World) (hp : p.At w) (hy : IFr w ya p.m Y) (hv : FrV p.m Y) (hvv : Vld va vd) :
  Calls Tryz.prog 39 #[p.val, .slice ya p.m yc, .agg #[.int .i64 va, .int .i64 vd]] w fun e w' => Below w.heap.size w w' ∧ ∃ v er, e = .returned (.tuple #[.bool v, .int .i64 er]) ∧ PrvQ p va vd Y v er := by
 unfold PgD.val
 obtain ⟨sg, hsg⟩ := bool_of (RgS p Y)
 obtain ⟨w1, hw1⟩ : ∃ W, W = w.alloc (Obj.cells #[Value.slice p.ca p.n p.cc, .slice p.ra p.m p.rc] 25) := ⟨_, rfl⟩
 obtain ⟨xb, hxb⟩ : ∃ x, x = w.heap.size := ⟨_, rfl⟩
 obtain ⟨w2, hw2⟩ : ∃ W, W = w1.alloc (Obj.cells #[.int .i64 va, .int .i64 vd] 27) := ⟨_, rfl⟩
 obtain ⟨kb, hkb⟩ : ∃ x, x = xb + 1 := ⟨_, rfl⟩
 have hkw : kb = w1.heap.size := by rw [hkb, hw1, hxb]; simp
 have hb1 : Below w.heap.size w w1 := by rw [hw1]; exact (Below.refl _ _).alloc (Nat.le_refl _) _
 have hb2 : Below w1.heap.size w1 w2 := by rw [hw2]; exact (Below.refl _ _).alloc (Nat.le_refl _) _
 have hB : Blk w1 xb (.slice p.ca p.n p.cc) (.slice p.ra p.m p.rc) := by rw [hw1, hxb]; exact Blk.new _ _ _ _
 have hA : Blk w2 kb (.int .i64 va) (.int .i64 vd) := by rw [hw2, hkw]; exact Blk.new _ _ _ _
 have HB := Lib.hid (below_on hb1 hb2)
 have HXB := Lib.hid (hB.on hb2)
 have HKB := Lib.hid hA
 have HP := Lib.hid hp
 have HY := Lib.hid hy
 have HV := Lib.hid hv
 have HOK := Lib.hid hok
 have HSG := Lib.hid hsg
 have HVV := Lib.hid hvv
 have CBE := Lib.hid (rpBelow_any p hok ya yc Y p.ca p.cc p.C w2 (hp.on HB.out) (hy.on HB.out) (hp.on HB.out).cost hv (fun j hj => by have := hok.c j hj; omega))
 unfold PgD.val at CBE
 clear hb1 hb2 hB hA hp hy hv hok hsg hvv
 go_enter Tryz.func39, Tryz.ntmps39
 go_upto_region 1 with fail
 rw [← hxb, ← hw1, ← hkb, ← hw2]
 clear hxb hw1 hw2 hkb hkw
 have q0 := HXB.out.2.1
 have q1 := HXB.out.2.2
 go_wp2_with fail
 (with_reducible refine ((CBE.out).mono ?_))
 rintro e w3 ⟨hb3, bv, be, rfl, hbq⟩
 have HBQ := Lib.hid hbq
 have HXB := Lib.hid (HXB.out.on hb3)
 have HKB := Lib.hid (HKB.out.on hb3)
 have HB := Lib.hid (below_on HB.out hb3)
 clear CBE hb3 hbq q0 q1
 rcases HBQ.out with ⟨hx, rfl, rfl⟩ | ⟨hz, hi, rfl⟩
 ·have HX := Lib.hid hx
  clear hx HBQ
  go_wp2_with fail
  go_ret2
  exact ⟨HB.out, false, 5, rfl, .inl ⟨HX.out.elim fun j h => ⟨j, by omega, h.2⟩, rfl⟩⟩
 have HZ := Lib.hid hz
 have HI := Lib.hid hi
 clear hz hi HBQ
 have q0 := HXB.out.2.1
 have q1 := HXB.out.2.2
 have CRI := Lib.hid (rpRights_any p HOK.out w3 (HP.out.on HB.out))
 unfold PgD.val at CRI
 go_wp2_with fail
 (with_reducible refine ((CRI.out).mono ?_))
 rintro e w4 ⟨hb4, pa, pc, rfl, hown⟩
 have hm2 := HOK.out.m2
 have CSU := Lib.hid (rpSum_any pa p.m pc p.Rt ya p.m yc Y w4 (irow_z hown) (HY.out.on (below_on HB.out hb4)) (Nat.le_refl _) (by omega) HV.out (fun j hj => HOK.out.r j hj))
 have HXB := Lib.hid (HXB.out.on hb4)
 have HKB := Lib.hid (HKB.out.on hb4)
 have HB := Lib.hid (below_on HB.out hb4)
 clear CRI hb4 hown q0 q1
 go_wp2_with fail
 (with_reducible refine ((CSU.out).mono ?_))
 rintro e w5 ⟨hb5, sa, sd, se, rfl, hse⟩
 have hso := comS_ok (fun j hj => HOK.out.r j hj) HV.out hse
 rw [rgt_wF] at hse
 have HSE := Lib.hid hse
 have HXB := Lib.hid (HXB.out.on hb5)
 have HKB := Lib.hid (HKB.out.on hb5)
 have HB := Lib.hid (below_on HB.out hb5)
 clear CSU hb5 hse
 go_upto_region 5 with fail
 have hb6 : Below w5.heap.size w5 (w5.alloc (Obj.cells #[Value.int .i64 sa, .int .i64 sd] 27)) := (Below.refl _ _).alloc (Nat.le_refl _) _
 obtain ⟨w6, hw6⟩ : ∃ W, W = w5.alloc (Obj.cells #[Value.int .i64 sa, .int .i64 sd] 27) := ⟨_, rfl⟩
 obtain ⟨sb, hsb⟩ : ∃ x, x = w5.heap.size := ⟨_, rfl⟩
 rw [← hsb, ← hw6]
 rw [← hw6] at hb6
 have HSB : Hid (Blk w6 sb (.int .i64 sa) (.int .i64 sd)) := by rw [hw6, hsb]; exact Blk.new _ _ _ _
 have HXB := Lib.hid (HXB.out.on hb6)
 have HKB := Lib.hid (HKB.out.on hb6)
 have HB := Lib.hid (below_on HB.out hb6)
 clear hw6 hsb hb6
 have CSG := Lib.hid (rpSigned_any p HOK.out ya yc Y w6 (HP.out.on HB.out) (HY.out.on HB.out) HV.out sg HSG.out)
 unfold PgD.val at CSG
 have q0 := HXB.out.2.1
 have q1 := HXB.out.2.2
 have k0 := HKB.out.2.1
 have k1 := HKB.out.2.2
 have s0 := HSB.out.2.1
 have s1 := HSB.out.2.2
 have HRES : Hid (∀ b : Bool, (b = true ↔ bv = true ∧ (sa, sd) = (va, vd) ∧ sg = true) → se = 0 → PrvQ p va vd Y b se) := fun b hb he => by
  subst he
  refine .inr ⟨fun j hj => ?_, ⟨fun h => ?_, fun h => ?_⟩, rfl⟩
  ·by_cases e : j = p.n
   ·rw [e, HSE.out]
   ·exact HZ.out j (by omega)
  ·obtain ⟨h1, h2, h3⟩ := hb.1 h
   refine ⟨HI.out.1 h1, ?_, HSG.out.1 h3⟩
   rw [HSE.out]
   injection h2 with h4 h5
   rw [h4, h5]
  ·refine hb.2 ⟨HI.out.2 h.1, ?_, HSG.out.2 h.2.2⟩
   have h2 := HSE.out.symm.trans h.2.1
   injection h2 with h4 h5
   injection h5 with h5 h6
   rw [h4, h5]
 have HERR : Hid (∀ b : Bool, se = 5 → sa = 0 → sd = 0 → PrvQ p va vd Y b se) := fun b h1 h2 h3 => by
  subst h1; subst h2; subst h3
  exact .inl ⟨⟨p.n, by omega, HSE.out⟩, rfl⟩
 have HDONE : Hid (∀ b : Bool, (b = true ↔ bv = true ∧ (sa, sd) = (va, vd) ∧ sg = true) → PrvQ p va vd Y b se) := fun b hb => by
  rcases hso with ⟨h, _⟩ | ⟨h1, h2, h3⟩
  ·exact HRES.out b hb h
  ·exact HERR.out b h3 h1 h2
 clear hso HRES HERR HSE HZ HI HSB HXB HKB
 cases bv
 ·go_wp2_with fail
  go_ret2
  exact ⟨HB.out, false, se, rfl, HDONE.out false ⟨fun h => (by cases h), fun h => absurd h.1 (by decide)⟩⟩
 by_cases h1 : sa = va
 case neg =>
  go_wp2_with fail
  go_ret2
  have HF := Lib.hid (HDONE.out false ⟨fun h => (by cases h), fun h => absurd (by injection h.2.1) h1⟩)
  (first | exact ⟨HB.out, false, se, rfl, HF.out⟩ | exact ⟨HB.out, .inl ⟨se, rfl, HF.out⟩⟩)
 by_cases h2 : sd = vd
 case neg =>
  go_wp2_with fail
  go_ret2
  have HF := Lib.hid (HDONE.out false ⟨fun h => (by cases h), fun h => absurd (by injection h.2.1) h2⟩)
  (first | exact ⟨HB.out, false, se, rfl, HF.out⟩ | exact ⟨HB.out, .inl ⟨se, rfl, HF.out⟩⟩)
 subst h1
 subst h2
 go_wp2_with fail
 (with_reducible refine ((CSG.out).mono ?_))
 rintro e w7 ⟨rfl, hb7⟩
 have HB := Lib.hid (below_on HB.out hb7)
 clear CSG hb7 q0 q1
 go_wp2_with fail
 go_ret2
 exact ⟨HB.out, sg, se, rfl, HDONE.out sg ⟨fun h => ⟨trivial, trivial, h⟩, fun h => h.2.2⟩⟩

/-- What the reference's Check answers. -/
def ChkQ (p : PgD) (va vd : Int) (X Y : Nat → Int × Int) (v : Bool) (er : Int) : Prop := (¬ ChkF p X Y ∧ v = false ∧ er = 5) ∨ (ChkF p X Y ∧ (v = true ↔ ChkR p va vd X Y) ∧ er = 0)
theorem chkf_row {p : PgD} {X Y : Nat → Int × Int} {i : Nat} (hi : i < p.m) (h : comS (p.Z i) X p.n = (0, 0, 5)) : ¬ ChkF p X Y := fun k => by
 have := k.1 i hi
 rw [h] at this
 cases this
theorem chkf_cost {p : PgD} {X Y : Nat → Int × Int} (h : comS p.C X p.n = (0, 0, 5)) : ¬ ChkF p X Y := fun k => by
 have := k.2.1
 rw [h] at this
 cases this
theorem chkf_col {p : PgD} {X Y : Nat → Int × Int} {j : Nat} (hj : j < p.n + 1) (h : comS (wF p j) Y p.m = (0, 0, 5)) : ¬ ChkF p X Y := fun k => by
 have := k.2.2 j hj
 rw [h] at this
 cases this

set_option maxRecDepth 100000 in
set_option maxHeartbeats 32000000 in
theorem rpCheck_any (p : PgD) (hok : p.Ok) (va vd : Int) (xa : Option Addr) (xc : Nat) (X : Nat → Int × Int) (ya : Option Addr) (yc : Nat) (Y : Nat → Int × Int) (w : World) (hp : p.At w) (hx : IFr w xa p.n X) (hy : IFr w ya p.m Y) (hvx : FrV p.n X) (hvy : FrV p.m Y) (hvv : Vld va vd) :
  Calls Tryz.prog 13 #[p.val, .agg #[.int .i64 va, .int .i64 vd, .slice xa p.n xc, .slice ya p.m yc]] w fun e w' => Below w.heap.size w w' ∧ ∃ v er, e = .returned (.tuple #[.bool v, .int .i64 er]) ∧ ChkQ p va vd X Y v er := by
 unfold PgD.val
 obtain ⟨w1, hw1⟩ : ∃ W, W = w.alloc (Obj.cells #[Value.slice p.ca p.n p.cc, .slice p.ra p.m p.rc] 25) := ⟨_, rfl⟩
 obtain ⟨xb, hxb⟩ : ∃ x, x = w.heap.size := ⟨_, rfl⟩
 obtain ⟨w2, hw2⟩ : ∃ W, W = w1.alloc (Obj.cells #[.int .i64 va, .int .i64 vd, .slice xa p.n xc, .slice ya p.m yc] 30) := ⟨_, rfl⟩
 obtain ⟨kb, hkb⟩ : ∃ x, x = xb + 1 := ⟨_, rfl⟩
 have hkw : kb = w1.heap.size := by rw [hkb, hw1, hxb]; simp
 have hb1 : Below w.heap.size w w1 := by rw [hw1]; exact (Below.refl _ _).alloc (Nat.le_refl _) _
 have hb2 : Below w1.heap.size w1 w2 := by rw [hw2]; exact (Below.refl _ _).alloc (Nat.le_refl _) _
 have hB : Blk w1 xb (.slice p.ca p.n p.cc) (.slice p.ra p.m p.rc) := by rw [hw1, hxb]; exact Blk.new _ _ _ _
 have hA : ABk w2 kb (.int .i64 va) (.int .i64 vd) (.slice xa p.n xc) (.slice ya p.m yc) := by
  rw [hw2, hkw]
  exact ⟨by simp, by simp [go_sem], by simp [go_sem], by simp [go_sem], by simp [go_sem], fun o => by simp [go_sem]⟩
 have hn2 := hok.n2
 have HB := Lib.hid (below_on hb1 hb2)
 have HXB := Lib.hid (hB.on hb2)
 have HKB := Lib.hid hA
 have HP := Lib.hid hp
 have HX := Lib.hid hx
 have HY := Lib.hid hy
 have HVX := Lib.hid hvx
 have HVY := Lib.hid hvy
 have HOK := Lib.hid hok
 have HVV := Lib.hid hvv
 have CFE := Lib.hid (rpFea_any p hok xa xc X w2 (hp.on HB.out) (hx.on HB.out) hvx)
 unfold PgD.val at CFE
 clear hb1 hb2 hB hA hp hx hy hvx hvy hok hvv
 go_enter Tryz.func13, Tryz.ntmps13
 go_upto_region 1 with fail
 rw [← hxb, ← hw1, ← hkb, ← hw2]
 clear hxb hw1 hw2 hkb hkw
 have q0 := HXB.out.2.1
 have q1 := HXB.out.2.2
 have k2 := HKB.out.c2
 go_wp2_with fail
 (with_reducible refine ((CFE.out).mono ?_))
 rintro e w3 ⟨hb3, fv, fe, rfl, hfq⟩
 have HFQ := Lib.hid hfq
 have HXB := Lib.hid (HXB.out.on hb3)
 have HKB := Lib.hid (HKB.out.on hb3)
 have HB := Lib.hid (below_on HB.out hb3)
 clear CFE hb3 hfq q0 q1 k2
 have CSU := Lib.hid (rpSum_any p.ca p.n p.cc p.C xa p.n xc X w3 (HP.out.on HB.out).cost (HX.out.on HB.out) (Nat.le_refl _) (by omega) HVX.out (fun j hj => by have := HOK.out.c j hj; omega))
 have q0 := HXB.out.2.1
 have q1 := HXB.out.2.2
 have k2 := HKB.out.c2
 go_wp2_with fail
 (with_reducible refine ((CSU.out).mono ?_))
 rintro e w5 ⟨hb5, sa, sd, se, rfl, hse⟩
 have hso := comS_ok (fun j hj => by have := HOK.out.c j hj; omega) HVX.out hse
 have HSO := Lib.hid hso
 have HSE := Lib.hid hse
 have HXB := Lib.hid (HXB.out.on hb5)
 have HKB := Lib.hid (HKB.out.on hb5)
 have HB := Lib.hid (below_on HB.out hb5)
 clear CSU hb5 hse hso q0 q1 k2
 go_upto_region 3 with fail
 have hb6 : Below w5.heap.size w5 (w5.alloc (Obj.cells #[Value.int .i64 sa, .int .i64 sd] 27)) := (Below.refl _ _).alloc (Nat.le_refl _) _
 obtain ⟨w6, hw6⟩ : ∃ W, W = w5.alloc (Obj.cells #[Value.int .i64 sa, .int .i64 sd] 27) := ⟨_, rfl⟩
 obtain ⟨sb, hsb⟩ : ∃ x, x = w5.heap.size := ⟨_, rfl⟩
 rw [← hsb, ← hw6]
 rw [← hw6] at hb6
 have HSB : Hid (Blk w6 sb (.int .i64 sa) (.int .i64 sd)) := by rw [hw6, hsb]; exact Blk.new _ _ _ _
 have HXB := Lib.hid (HXB.out.on hb6)
 have HKB := Lib.hid (HKB.out.on hb6)
 have HB := Lib.hid (below_on HB.out hb6)
 clear hw6 hsb hb6
 have CPR := Lib.hid (rpProves_any p HOK.out va vd ya yc Y w6 (HP.out.on HB.out) (HY.out.on HB.out) HVY.out HVV.out)
 unfold PgD.val at CPR
 have q0 := HXB.out.2.1
 have q1 := HXB.out.2.2
 have k0 := HKB.out.c0
 have k1 := HKB.out.c1
 have k3 := HKB.out.c3
 go_wp2_with fail
 (with_reducible refine ((CPR.out).mono ?_))
 rintro e w7 ⟨hb7, pv, pe, rfl, hpq⟩
 have HPQ := Lib.hid hpq
 have HSB := Lib.hid (HSB.out.on hb7)
 have HKB := Lib.hid (HKB.out.on hb7)
 have HB := Lib.hid (below_on HB.out hb7)
 clear CPR hb7 hpq q0 q1 k0 k1 k3 HXB
 have k0 := HKB.out.c0
 have k1 := HKB.out.c1
 have s0 := HSB.out.2.1
 have s1 := HSB.out.2.2
 rcases HFQ.out with ⟨hx, rfl, rfl⟩ | ⟨hz, hi, rfl⟩
 ·have HNO : Hid (¬ ChkF p X Y) := hx.elim fun i h => chkf_row h.1 h.2
  clear hx HFQ HPQ HSO HSE
  go_wp2_with fail
  go_ret2
  exact ⟨HB.out, false, 5, rfl, .inl ⟨HNO.out, rfl, rfl⟩⟩
 rcases HSO.out with ⟨rfl, vs⟩ | ⟨rfl, rfl, rfl⟩
 case inr =>
  have HNO : Hid (¬ ChkF p X Y) := chkf_cost HSE.out
  clear hz hi HFQ HPQ HSO HSE
  go_wp2_with fail
  go_ret2
  exact ⟨HB.out, false, 5, rfl, .inl ⟨HNO.out, rfl, rfl⟩⟩
 rcases HPQ.out with ⟨hx, rfl⟩ | ⟨hz2, hi2, rfl⟩
 ·have HNO : Hid (¬ ChkF p X Y) := hx.elim fun j h => chkf_col h.1 h.2
  clear hx hz hi HFQ HPQ HSO HSE vs
  go_wp2_with fail
  go_ret2
  exact ⟨HB.out, false, 5, rfl, .inl ⟨HNO.out, rfl, rfl⟩⟩
 have HCF : Hid (ChkF p X Y) := ⟨hz, by rw [HSE.out], hz2⟩
 have HRES : Hid (∀ b : Bool, (b = true ↔ fv = true ∧ (sa, sd) = (va, vd) ∧ pv = true) → ChkQ p va vd X Y b 0) := fun b hb => by
  refine .inr ⟨HCF.out, ⟨fun h => ?_, fun h => ?_⟩, rfl⟩
  ·obtain ⟨h1, h2, h3⟩ := hb.1 h
   obtain ⟨g1, g2, g3⟩ := hi2.1 h3
   injection h2 with h4 h5
   exact ⟨hi.1 h1, by rw [HSE.out, h4, h5], g3, g1, g2⟩
  ·have h2 := HSE.out.symm.trans h.val
   injection h2 with h4 h5
   injection h5 with h5 h6
   exact hb.2 ⟨hi.2 h.fea, by rw [h4, h5], hi2.2 ⟨h.col, h.rgt, h.sg⟩⟩
 clear hz hi hz2 hi2 HFQ HPQ HSO HSE vs HCF
 cases fv
 ·go_wp2_with fail
  go_ret2
  exact ⟨HB.out, false, 0, rfl, HRES.out false ⟨fun h => (by cases h), fun h => absurd h.1 (by decide)⟩⟩
 by_cases h1 : sa = va
 case neg =>
  go_wp2_with fail
  go_ret2
  exact ⟨HB.out, false, 0, rfl, HRES.out false ⟨fun h => (by cases h), fun h => absurd (by injection h.2.1) h1⟩⟩
 by_cases h2 : sd = vd
 case neg =>
  go_wp2_with fail
  go_ret2
  exact ⟨HB.out, false, 0, rfl, HRES.out false ⟨fun h => (by cases h), fun h => absurd (by injection h.2.1) h2⟩⟩
 subst h1
 subst h2
 go_wp2_with fail
 go_ret2
 exact ⟨HB.out, pv, 0, rfl, HRES.out pv ⟨fun h => ⟨trivial, trivial, h⟩, fun h => h.2.2⟩⟩
end Go.Proofs.YtggpdhdbeokkcaaGreat

namespace Go.Proofs.YtggpdhdbeokkcaaGreat
set_option linter.unusedVariables false
open Go.RowKit Go.Shelf

theorem BelQ.ex (p : PgD) {Y : Nat → Int × Int} {f : Nat → Int} (hok : p.Ok) (hv : FrV p.m Y) : ∃ v er, BelQ p Y f v er := by
 by_cases h : ∃ j, j < p.n ∧ comS (wF p j) Y p.m = (0, 0, 5)
 ·exact ⟨false, 5, .inl ⟨h, rfl, rfl⟩⟩
 ·obtain ⟨v, hb⟩ := bool_of (∀ j, j < p.n → cmpI (comS (wF p j) Y p.m).1 (comS (wF p j) Y p.m).2.1 (f j) ≤ 0)
  refine ⟨v, 0, .inr ⟨fun j hj => ?_, hb, rfl⟩⟩
  rcases comS_vld (f := wF p j) (fun i hi => wF_bd hok j i hi) hv p.m (Nat.le_refl _) with g | g
  ·exact absurd ⟨j, hj, g⟩ h
  ·exact g.1
theorem BelQ.uniq {p : PgD} {Y : Nat → Int × Int} {f : Nat → Int} {v v2 : Bool} {er er2 : Int} (h : BelQ p Y f v er) (k : BelQ p Y f v2 er2) : v = v2 ∧ er = er2 := by
 rcases h with ⟨⟨j, hj, hx⟩, rfl, rfl⟩ | ⟨hz, hi, rfl⟩ <;> rcases k with ⟨⟨j2, hj2, hx2⟩, rfl, rfl⟩ | ⟨hz2, hi2, rfl⟩
 ·exact ⟨rfl, rfl⟩
 ·have := hz2 j hj
  rw [hx] at this
  cases this
 ·have := hz j2 hj2
  rw [hx2] at this
  cases this
 ·refine ⟨?_, rfl⟩
  have e := hi.trans hi2.symm
  cases v <;> cases v2
  ·rfl
  ·exact absurd (e.2 rfl) (by decide)
  ·exact absurd (e.1 rfl) (by decide)
  ·rfl
theorem slr_make {W : World} {base g n : Nat} (h : W.ownsRow base 3 1 (.slice (some ⟨g, 0, none⟩) n n) n (madeCells (Value.int .i64 0).cells (n * 1)).toList) : SlR W g (List.replicate n (.int .i64 0)) := by
 refine ⟨(h.lt g rfl).2, fun j u hu => ?_⟩
 have hj : j < n := by
  have := (List.getElem?_eq_some_iff.1 hu).1
  simpa using this
 have h2 := h.cellAt j (by omega)
 rw [show (Value.int .i64 0).cells = #[Value.int .i64 0] by rfl, Nat.mul_one, toList_madeCells_one] at h2
 rw [h2]
 exact hu
theorem irow_zero {W : World} {g n : Nat} (h : SlR W g (List.replicate n (.int .i64 0))) : IRow W (some ⟨g, 0, none⟩) n (fun _ => 0) := fun _ => ⟨g, 0, rfl, h.1, fun j hj => by
 rw [Nat.zero_add]
 exact h.2 j _ (by simp [hj])⟩
structure RfuR (xb pn pm pcc prc yc : Nat) (pca pra ya : Option Addr) (bv : Bool) (be : Int) (Wc : World) (L : Nat → Bool) (v : Nat → Value) (W : World) : Prop where
 st : Below Wc.heap.size Wc W
 f0 : Had L 0 (v 10 = .agg #[.slice pca pn pcc, .slice pra pm prc])
 f1 : Had L 1 (v 11 = .slice ya pm yc)
 f2 : Had L 2 (v 12 = .pointer (some ⟨xb, 0, none⟩))
 f3 : Had L 3 (v 13 = .slice pca pn pcc)
 f4 : Had L 4 (v 14 = .int .i64 (pn : Int))
 x5 : Had L 5 (∃ B, v 15 = .slice (some ⟨B, 0, none⟩) pn pn ∧ SlR W B (List.replicate pn (.int .i64 0)))
 f6 : Had L 6 (v 16 = .tuple #[.bool bv, .int .i64 be])
 f7 : Had L 7 (v 9 = .tuple #[.bool bv, .int .i64 be])
 f8 : Had L 8 (v 17 = .bool bv)
 f9 : Had L 9 (v 18 = .int .i64 be)
 f10 : Had L 10 (v 6 = .bool bv)
 f11 : Had L 11 (v 7 = .int .i64 be)
 w3 : Had L 3 (∀ j ∈ [2], L j = true)
 w4 : Had L 4 (∀ j ∈ [3], L j = true)
 w5 : Had L 5 (∀ j ∈ [4], L j = true)
 w6 : Had L 6 (∀ j ∈ [0, 1, 5], L j = true)
 w7 : Had L 7 (∀ j ∈ [6], L j = true)
 w8 : Had L 8 (∀ j ∈ [7], L j = true)
 w9 : Had L 9 (∀ j ∈ [7], L j = true)
 w10 : Had L 10 (∀ j ∈ [8], L j = true)
 w11 : Had L 11 (∀ j ∈ [9], L j = true)

set_option maxRecDepth 100000 in
set_option maxHeartbeats 32000000 in
theorem rpRefutes_any (p : PgD) (hok : p.Ok) (ya : Option Addr) (yc : Nat) (Y : Nat → Int × Int) (w : World) (hp : p.At w) (hy : IFr w ya p.m Y) (hv : FrV p.m Y) :
  Calls Tryz.prog 14 #[p.val, .slice ya p.m yc] w fun e w' => Below w.heap.size w w' ∧ ∃ v er, e = .returned (.tuple #[.bool v, .int .i64 er]) ∧ RefO p p.m Y v er := by
 unfold PgD.val
 obtain ⟨sg, hsg⟩ := bool_of (RgS p Y)
 obtain ⟨bv, be, hbq⟩ := BelQ.ex (f := fun _ => 0) p hok hv
 obtain ⟨w1, hw1⟩ : ∃ W, W = w.alloc (Obj.cells #[Value.slice p.ca p.n p.cc, .slice p.ra p.m p.rc] 25) := ⟨_, rfl⟩
 obtain ⟨xb, hxb⟩ : ∃ x, x = w.heap.size := ⟨_, rfl⟩
 have hb1 : Below w.heap.size w w1 := by rw [hw1]; exact (Below.refl _ _).alloc (Nat.le_refl _) _
 have hB : Blk w1 xb (.slice p.ca p.n p.cc) (.slice p.ra p.m p.rc) := by rw [hw1, hxb]; exact Blk.new _ _ _ _
 have hn2 := hok.n2
 have hm2 := hok.m2
 have HB := Lib.hid hb1
 have HXB := Lib.hid hB
 have HP := Lib.hid hp
 have HY := Lib.hid hy
 have HV := Lib.hid hv
 have HOK := Lib.hid hok
 have HSG := Lib.hid hsg
 have HBQ := Lib.hid hbq
 have CB0 := Lib.hid (fun (W : World) (h : Below w1.heap.size w1 W) (B : Nat) (hB : SlR W B (List.replicate p.n (.int .i64 0))) => (rpBelow_any p hok ya yc Y (some ⟨B, 0, none⟩) p.n (fun _ => 0) W (hp.on (below_on hb1 h)) (hy.on (below_on hb1 h)) (irow_zero hB) hv (fun _ _ => by omega)).mono (fun e w' q => show e = .returned (.tuple #[.bool bv, .int .i64 be]) ∧ Below W.heap.size W w' by
  obtain ⟨h1, v2, e2, rfl, h2⟩ := q
  obtain ⟨rfl, rfl⟩ := h2.uniq hbq
  exact ⟨rfl, h1⟩))
 have CBE := fun W h B hB => Lib.hid (CB0.out W h B hB)
 unfold PgD.val at CBE
 have LX0 : Hid (w1.cell? ⟨xb, 0, none⟩ = some (.slice p.ca p.n p.cc) ∧ xb < w1.heap.size) := ⟨hB.2.1, hB.1⟩
 have LX1 : Hid (w1.cell? ⟨xb, 1, none⟩ = some (.slice p.ra p.m p.rc) ∧ xb < w1.heap.size) := ⟨hB.2.2, hB.1⟩
 obtain ⟨i0, hi0, hz0, hz1, hz2⟩ := info_parts (show (Tryz.prog.info? 3).map (fun i => (i.zero, i.size, i.bytes)) = some (some (Value.int IntKind.i64 0), 1, 8) by kernel_rfl)
 have HI := Lib.hid (And.intro hi0 (And.intro hz0 (And.intro hz1 hz2)))
 clear hi0 hz0 hz1 hz2 hb1 hB hp hy hv hok hsg hbq CB0
 go_enter Tryz.func14, Tryz.ntmps14
 go_upto_region 1 with fail
 rw [← hxb, ← hw1]
 clear hxb hw1
 refine wp_region_each (fun L A W => ∃ (v : Nat → Value), A = ⟨#[_, _, _, _, _, _, v 6, v 7, _, v 9, v 10, v 11, v 12, v 13, v 14, v 15, v 16, v 17, v 18, _, _, _, _, _, _, _, _, _, _, _, _, _, _, _, _, _, _, _, _, _, _, _, _], []⟩ ∧ RfuR xb p.n p.m p.cc p.rc yc p.ca p.ra ya bv be w1 L v W) (by kernel_rfl) (by kernel_rfl) ⟨fun jz => if jz = 10 then undef else if jz = 11 then undef else if jz = 12 then undef else if jz = 13 then undef else if jz = 14 then undef else if jz = 15 then undef else if jz = 16 then undef else if jz = 9 then undef else if jz = 17 then undef else if jz = 18 then undef else if jz = 6 then undef else if jz = 7 then undef else undef, rfl, ⟨Below.drew (Below.refl _ _), Had.none, Had.none, Had.none, Had.none, Had.none, Had.none, Had.none, Had.none, Had.none, Had.none, Had.none, Had.none, Had.none, Had.none, Had.none, Had.none, Had.none, Had.none, Had.none, Had.none, Had.none⟩⟩ (rs := [0, 1, 2, 3, 4, 5, 6, 7, 8, 9, 10, 11]) (by kernel_rfl) ?_ ?_
 ·refine EachOf.cons [] rfl (by kernel_rfl) ?_ ?_
  ·rintro L A W ⟨v, rfl, hR⟩ hi hw K hK
   have q0 := (hR.st.cell (p := ⟨xb, 0, none⟩) LX0.out.2).trans LX0.out.1
   have q1 := (hR.st.cell (p := ⟨xb, 1, none⟩) LX1.out.2).trans LX1.out.1
   go_simp
   refine hK.out _ _ ?_
   exact ⟨(fun jz => if jz = 10 then .agg #[.slice p.ca p.n p.cc, .slice p.ra p.m p.rc] else v jz), rfl, ⟨hR.st, (fun _ => rfl), hR.f1.k, hR.f2.k, hR.f3.k, hR.f4.k, hR.x5.k, hR.f6.k, hR.f7.k, hR.f8.k, hR.f9.k, hR.f10.k, hR.f11.k, hR.w3.o, hR.w4.o, hR.w5.o, hR.w6.o, hR.w7.o, hR.w8.o, hR.w9.o, hR.w10.o, hR.w11.o⟩⟩
  refine EachOf.cons [] rfl (by kernel_rfl) ?_ ?_
  ·rintro L A W ⟨v, rfl, hR⟩ hi hw K hK
   go_simp
   refine hK.out _ _ ?_
   exact ⟨(fun jz => if jz = 11 then .slice ya p.m yc else v jz), rfl, ⟨hR.st, hR.f0.k, (fun _ => rfl), hR.f2.k, hR.f3.k, hR.f4.k, hR.x5.k, hR.f6.k, hR.f7.k, hR.f8.k, hR.f9.k, hR.f10.k, hR.f11.k, hR.w3.o, hR.w4.o, hR.w5.o, hR.w6.o, hR.w7.o, hR.w8.o, hR.w9.o, hR.w10.o, hR.w11.o⟩⟩
  refine EachOf.cons [] rfl (by kernel_rfl) ?_ ?_
  ·rintro L A W ⟨v, rfl, hR⟩ hi hw K hK
   go_simp
   refine hK.out _ _ ?_
   exact ⟨(fun jz => if jz = 12 then .pointer (some ⟨xb, 0, none⟩) else v jz), rfl, ⟨hR.st, hR.f0.k, hR.f1.k, (fun _ => rfl), hR.f3.k, hR.f4.k, hR.x5.k, hR.f6.k, hR.f7.k, hR.f8.k, hR.f9.k, hR.f10.k, hR.f11.k, hR.w3.o, hR.w4.o, hR.w5.o, hR.w6.o, hR.w7.o, hR.w8.o, hR.w9.o, hR.w10.o, hR.w11.o⟩⟩
  refine EachOf.cons [2] rfl (by kernel_rfl) ?_ ?_
  ·rintro L A W ⟨v, rfl, hR⟩ hi hw K hK
   have e2 := hR.f2 (hw 2 (by simp))
   simp only [e2]
   clear e2
   have q0 := (hR.st.cell (p := ⟨xb, 0, none⟩) LX0.out.2).trans LX0.out.1
   go_simp
   refine hK.out _ _ ?_
   exact ⟨(fun jz => if jz = 12 then .pointer (some ⟨xb, 0, none⟩) else if jz = 13 then .slice p.ca p.n p.cc else v jz), rfl, ⟨hR.st, hR.f0.k, hR.f1.k, (fun _ => rfl), (fun _ => rfl), hR.f4.k, hR.x5.k, hR.f6.k, hR.f7.k, hR.f8.k, hR.f9.k, hR.f10.k, hR.f11.k, (fun _ j hj => upd_on (hw j hj)), hR.w4.o, hR.w5.o, hR.w6.o, hR.w7.o, hR.w8.o, hR.w9.o, hR.w10.o, hR.w11.o⟩⟩
  refine EachOf.cons [3] rfl (by kernel_rfl) ?_ ?_
  ·rintro L A W ⟨v, rfl, hR⟩ hi hw K hK
   have e3 := hR.f3 (hw 3 (by simp))
   simp only [e3]
   clear e3
   go_simp
   refine hK.out _ _ ?_
   exact ⟨(fun jz => if jz = 13 then .slice p.ca p.n p.cc else if jz = 14 then .int .i64 (p.n : Int) else v jz), rfl, ⟨hR.st, hR.f0.k, hR.f1.k, hR.f2.k, (fun _ => rfl), (fun _ => rfl), hR.x5.k, hR.f6.k, hR.f7.k, hR.f8.k, hR.f9.k, hR.f10.k, hR.f11.k, hR.w3.o, (fun _ j hj => upd_on (hw j hj)), hR.w5.o, hR.w6.o, hR.w7.o, hR.w8.o, hR.w9.o, hR.w10.o, hR.w11.o⟩⟩
  refine EachOf.cons [4] rfl (by kernel_rfl) ?_ ?_
  ·rintro L A W ⟨v, rfl, hR⟩ hi hw K hK
   have e4 := hR.f4 (hw 4 (by simp))
   simp only [e4]
   clear e4
   simp only [List.getElem_toArray, List.getElem_cons_succ, List.getElem_cons_zero]
   rw [if_pos (show Region.wanted _ _ = true by rfl)]
   refine wp_make_own W _ _ 22 (by rfl) W.heap.size 3 i0 (.int .i64 0) 1 Tryz.underlying22 HI.out.1 HI.out.2.1 HI.out.2.2.1 _ _ _ _ p.n (by rfl) (by rfl) rfl rfl (by rw [HI.out.2.2.2]; omega) (by unfold maxLen; omega) (Nat.le_refl _) ?_
   intro wz hown hg
   have hb : Below W.heap.size W wz := ⟨hg.os, hg.tape, hg.output, hg.size, fun k hk => hg.block k hk (by simp)⟩
   refine hK.out _ _ ?_
   exact ⟨(fun jz => if jz = 14 then .int .i64 (p.n : Int) else if jz = 15 then .slice (some ⟨W.heap.size, 0, none⟩) p.n p.n else v jz), rfl, ⟨below_on hR.st hb, hR.f0.k, hR.f1.k, hR.f2.k, hR.f3.k, (fun _ => rfl), (fun _ => ⟨W.heap.size, rfl, slr_make hown⟩), hR.f6.k, hR.f7.k, hR.f8.k, hR.f9.k, hR.f10.k, hR.f11.k, hR.w3.o, hR.w4.o, (fun _ j hj => upd_on (hw j hj)), hR.w6.o, hR.w7.o, hR.w8.o, hR.w9.o, hR.w10.o, hR.w11.o⟩⟩
  refine EachOf.cons [0, 1, 5] rfl (by kernel_rfl) ?_ ?_
  ·rintro L A W ⟨v, rfl, hR⟩ hi hw K hK
   have e0 := hR.f0 (hw 0 (by simp))
   have e1 := hR.f1 (hw 1 (by simp))
   simp only [e0, e1]
   clear e0 e1
   obtain ⟨B5, e5, hB5⟩ := hR.x5 (hw 5 (by simp))
   simp only [e5]
   go_simp
   go_at_call 40
   (with_reducible refine (((CBE W (hR.st) B5 hB5)).out.mono ?_))
   rintro e w2 ⟨rfl, hb⟩
   go_simp
   refine hK.out _ _ ?_
   exact ⟨(fun jz => if jz = 10 then .agg #[.slice p.ca p.n p.cc, .slice p.ra p.m p.rc] else if jz = 11 then .slice ya p.m yc else if jz = 15 then .slice (some ⟨B5, 0, none⟩) p.n p.n else if jz = 16 then .tuple #[.bool bv, .int .i64 be] else v jz), rfl, ⟨below_on hR.st hb, (fun _ => rfl), (fun _ => rfl), hR.f2.k, hR.f3.k, hR.f4.k, (fun _ => ⟨B5, rfl, hB5.on hb⟩), (fun _ => rfl), hR.f7.k, hR.f8.k, hR.f9.k, hR.f10.k, hR.f11.k, hR.w3.o, hR.w4.o, hR.w5.o, (fun _ j hj => upd_on (hw j hj)), hR.w7.o, hR.w8.o, hR.w9.o, hR.w10.o, hR.w11.o⟩⟩
  refine EachOf.cons [6] rfl (by kernel_rfl) ?_ ?_
  ·rintro L A W ⟨v, rfl, hR⟩ hi hw K hK
   have e6 := hR.f6 (hw 6 (by simp))
   simp only [e6]
   clear e6
   go_simp
   refine hK.out _ _ ?_
   exact ⟨(fun jz => if jz = 16 then .tuple #[.bool bv, .int .i64 be] else if jz = 9 then .tuple #[.bool bv, .int .i64 be] else v jz), rfl, ⟨hR.st, hR.f0.k, hR.f1.k, hR.f2.k, hR.f3.k, hR.f4.k, hR.x5.k, (fun _ => rfl), (fun _ => rfl), hR.f8.k, hR.f9.k, hR.f10.k, hR.f11.k, hR.w3.o, hR.w4.o, hR.w5.o, hR.w6.o, (fun _ j hj => upd_on (hw j hj)), hR.w8.o, hR.w9.o, hR.w10.o, hR.w11.o⟩⟩
  refine EachOf.cons [7] rfl (by kernel_rfl) ?_ ?_
  ·rintro L A W ⟨v, rfl, hR⟩ hi hw K hK
   have e7 := hR.f7 (hw 7 (by simp))
   simp only [e7]
   clear e7
   go_simp
   refine hK.out _ _ ?_
   exact ⟨(fun jz => if jz = 9 then .tuple #[.bool bv, .int .i64 be] else if jz = 17 then .bool bv else v jz), rfl, ⟨hR.st, hR.f0.k, hR.f1.k, hR.f2.k, hR.f3.k, hR.f4.k, hR.x5.k, hR.f6.k, (fun _ => rfl), (fun _ => rfl), hR.f9.k, hR.f10.k, hR.f11.k, hR.w3.o, hR.w4.o, hR.w5.o, hR.w6.o, hR.w7.o, (fun _ j hj => upd_on (hw j hj)), hR.w9.o, hR.w10.o, hR.w11.o⟩⟩
  refine EachOf.cons [7] rfl (by kernel_rfl) ?_ ?_
  ·rintro L A W ⟨v, rfl, hR⟩ hi hw K hK
   have e7 := hR.f7 (hw 7 (by simp))
   simp only [e7]
   clear e7
   go_simp
   refine hK.out _ _ ?_
   exact ⟨(fun jz => if jz = 9 then .tuple #[.bool bv, .int .i64 be] else if jz = 18 then .int .i64 be else v jz), rfl, ⟨hR.st, hR.f0.k, hR.f1.k, hR.f2.k, hR.f3.k, hR.f4.k, hR.x5.k, hR.f6.k, (fun _ => rfl), hR.f8.k, (fun _ => rfl), hR.f10.k, hR.f11.k, hR.w3.o, hR.w4.o, hR.w5.o, hR.w6.o, hR.w7.o, hR.w8.o, (fun _ j hj => upd_on (hw j hj)), hR.w10.o, hR.w11.o⟩⟩
  refine EachOf.cons [8] rfl (by kernel_rfl) ?_ ?_
  ·rintro L A W ⟨v, rfl, hR⟩ hi hw K hK
   have e8 := hR.f8 (hw 8 (by simp))
   simp only [e8]
   clear e8
   go_simp
   refine hK.out _ _ ?_
   exact ⟨(fun jz => if jz = 17 then .bool bv else if jz = 6 then .bool bv else v jz), rfl, ⟨hR.st, hR.f0.k, hR.f1.k, hR.f2.k, hR.f3.k, hR.f4.k, hR.x5.k, hR.f6.k, hR.f7.k, (fun _ => rfl), hR.f9.k, (fun _ => rfl), hR.f11.k, hR.w3.o, hR.w4.o, hR.w5.o, hR.w6.o, hR.w7.o, hR.w8.o, hR.w9.o, (fun _ j hj => upd_on (hw j hj)), hR.w11.o⟩⟩
  refine EachOf.cons [9] rfl (by kernel_rfl) ?_ ?_
  ·rintro L A W ⟨v, rfl, hR⟩ hi hw K hK
   have e9 := hR.f9 (hw 9 (by simp))
   simp only [e9]
   clear e9
   go_simp
   refine hK.out _ _ ?_
   exact ⟨(fun jz => if jz = 18 then .int .i64 be else if jz = 7 then .int .i64 be else v jz), rfl, ⟨hR.st, hR.f0.k, hR.f1.k, hR.f2.k, hR.f3.k, hR.f4.k, hR.x5.k, hR.f6.k, hR.f7.k, hR.f8.k, (fun _ => rfl), hR.f10.k, (fun _ => rfl), hR.w3.o, hR.w4.o, hR.w5.o, hR.w6.o, hR.w7.o, hR.w8.o, hR.w9.o, hR.w10.o, (fun _ j hj => upd_on (hw j hj))⟩⟩
  exact EachOf.nil
 rintro L A W ⟨v, rfl, hR⟩ hL
 have e10 := hR.f10 (hL 10 (by simp))
 have e11 := hR.f11 (hL 11 (by simp))
 simp only [e10, e11]
 have HXB := Lib.hid (HXB.out.on hR.st)
 have HB := Lib.hid (below_on HB.out hR.st)
 clear e10 e11 hR hL CBE LX0 LX1 HI
 rename World => w3
 have hbq := HBQ.out
 clear HBQ
 rcases hbq with ⟨hx, rfl, rfl⟩ | ⟨hz, hi, rfl⟩
 ·have HX := Lib.hid hx
  clear hx
  go_wp2_with fail
  go_ret2
  exact ⟨HB.out, false, 5, rfl, .inr (.inr (.inl ⟨HOK.out, HV.out, rfl, HX.out.elim fun j h => ⟨j, by omega, h.2⟩, rfl, rfl⟩))⟩
 have HZ := Lib.hid hz
 have HI := Lib.hid hi
 clear hz hi
 have q0 := HXB.out.2.1
 have q1 := HXB.out.2.2
 have CRI := Lib.hid (rpRights_any p HOK.out w3 (HP.out.on HB.out))
 unfold PgD.val at CRI
 go_wp2_with fail
 (with_reducible refine ((CRI.out).mono ?_))
 rintro e w4 ⟨hb4, pa, pc, rfl, hown⟩
 have CSU := Lib.hid (rpSum_any pa p.m pc p.Rt ya p.m yc Y w4 (irow_z hown) (HY.out.on (below_on HB.out hb4)) (Nat.le_refl _) (by omega) HV.out (fun j hj => HOK.out.r j hj))
 have HXB := Lib.hid (HXB.out.on hb4)
 have HB := Lib.hid (below_on HB.out hb4)
 clear CRI hb4 hown q0 q1
 go_wp2_with fail
 (with_reducible refine ((CSU.out).mono ?_))
 rintro e w5 ⟨hb5, sa, sd, se, rfl, hse⟩
 have hso := comS_ok (fun j hj => HOK.out.r j hj) HV.out hse
 rw [rgt_wF] at hse
 have HSE := Lib.hid hse
 have HXB := Lib.hid (HXB.out.on hb5)
 have HB := Lib.hid (below_on HB.out hb5)
 clear CSU hb5 hse
 go_upto_region 5 with fail
 have hb6 : Below w5.heap.size w5 (w5.alloc (Obj.cells #[Value.int .i64 sa, .int .i64 sd] 27)) := (Below.refl _ _).alloc (Nat.le_refl _) _
 obtain ⟨w6, hw6⟩ : ∃ W, W = w5.alloc (Obj.cells #[Value.int .i64 sa, .int .i64 sd] 27) := ⟨_, rfl⟩
 obtain ⟨sb, hsb⟩ : ∃ x, x = w5.heap.size := ⟨_, rfl⟩
 rw [← hsb, ← hw6]
 rw [← hw6] at hb6
 have HSB : Hid (Blk w6 sb (.int .i64 sa) (.int .i64 sd)) := by rw [hw6, hsb]; exact Blk.new _ _ _ _
 have HXB := Lib.hid (HXB.out.on hb6)
 have HB := Lib.hid (below_on HB.out hb6)
 clear hw6 hsb hb6
 rcases hso with ⟨rfl, vs⟩ | ⟨rfl, rfl, rfl⟩
 case inr =>
  have HE := Lib.hid HSE.out
  clear HSE HZ HI HSB
  go_wp2_with fail
  go_ret2
  exact ⟨HB.out, false, 5, rfl, .inr (.inr (.inl ⟨HOK.out, HV.out, rfl, ⟨p.n, by omega, HE.out⟩, rfl, rfl⟩))⟩
 obtain ⟨k, hk⟩ : ∃ k, cmpI sa sd 0 = k := ⟨_, rfl⟩
 have hz := (cmpI_zero vs).2.2
 have CG := Lib.hid (rpSign_any sa sd w6 vs)
 rw [hk] at hz CG
 have HRES : Hid (∀ b : Bool, (b = true ↔ bv = true ∧ 0 < k ∧ sg = true) → RefO p p.m Y b 0) := fun b hb => by
  refine .inr (.inr (.inr ⟨HOK.out, HV.out, rfl, fun j hj => ?_, ⟨fun h => ?_, fun h => ?_⟩, rfl⟩))
  ·by_cases e : j = p.n
   ·rw [e, HSE.out]
   ·exact HZ.out j (by omega)
  ·obtain ⟨h1, h2, h3⟩ := hb.1 h
   exact ⟨HSG.out.1 h3, HI.out.1 h1, by rw [HSE.out]; exact hz.1 h2⟩
  ·refine hb.2 ⟨HI.out.2 h.col, hz.2 ?_, HSG.out.2 h.sg⟩
   have := h.pos
   rw [HSE.out] at this
   exact this
 clear hk hz HSE HZ HI vs
 have s0 := HSB.out.2.1
 have s1 := HSB.out.2.2
 cases bv
 ·clear CG
  go_wp2_with fail
  go_ret2
  exact ⟨HB.out, false, 0, rfl, HRES.out false ⟨fun h => (by cases h), fun h => absurd h.1 (by decide)⟩⟩
 by_cases h0 : 0 < k
 case neg =>
  have t1 : decide (0 < k) = false := decide_eq_false h0
  go_wp2_with fail
  (with_reducible refine ((CG.out).mono ?_))
  rintro e w7 ⟨rfl, hb7⟩
  have HB := Lib.hid (below_on HB.out hb7)
  clear CG hb7 s0 s1
  go_wp2_with fail
  go_ret2
  exact ⟨HB.out, false, 0, rfl, HRES.out false ⟨fun h => (by cases h), fun h => absurd h.2.1 (by omega)⟩⟩
 have t1 : decide (0 < k) = true := decide_eq_true h0
 go_wp2_with fail
 (with_reducible refine ((CG.out).mono ?_))
 rintro e w7 ⟨rfl, hb7⟩
 have HXB := Lib.hid (HXB.out.on hb7)
 have HB := Lib.hid (below_on HB.out hb7)
 clear CG hb7 s0 s1
 have CSG := Lib.hid (rpSigned_any p HOK.out ya yc Y w7 (HP.out.on HB.out) (HY.out.on HB.out) HV.out sg HSG.out)
 unfold PgD.val at CSG
 have q0 := HXB.out.2.1
 have q1 := HXB.out.2.2
 go_wp2_with fail
 (with_reducible refine ((CSG.out).mono ?_))
 rintro e w8 ⟨rfl, hb8⟩
 have HB := Lib.hid (below_on HB.out hb8)
 clear CSG hb8 q0 q1
 go_wp2_with fail
 go_ret2
 exact ⟨HB.out, sg, 0, rfl, HRES.out sg ⟨fun h => ⟨trivial, h0, h⟩, fun h => h.2.2⟩⟩
end Go.Proofs.YtggpdhdbeokkcaaGreat

namespace Go.Proofs.YtggpdhdbeokkcaaGreat
set_option linter.unusedVariables false
open Go.RowKit Go.Shelf

theorem bool_eq {a b : Bool} {P : Prop} (h : a = true ↔ P) (k : b = true ↔ P) : a = b := by
 have e := h.trans k.symm
 cases a <;> cases b
 ·rfl
 ·exact absurd (e.2 rfl) (by decide)
 ·exact absurd (e.1 rfl) (by decide)
 ·rfl
theorem ref_eq {p : PgD} {Y : Nat → Int × Int} {v v2 : Bool} {er er2 : Int} (hok : p.Ok) (hy : FrV p.m Y) (h : RefO p p.m Y v er) (k : RefO p p.m Y v2 er2) : v = v2 ∧ er = er2 := by
 rcases h with ⟨h, _⟩ | ⟨_, _, h, _⟩ | ⟨_, _, _, ⟨j, hj, h⟩, rfl, rfl⟩ | ⟨_, _, _, h, h1, rfl⟩
 ·exact absurd ⟨hok, hy⟩ h
 ·exact absurd rfl h
 ·rcases k with ⟨k, _⟩ | ⟨_, _, k, _⟩ | ⟨_, _, _, _, rfl, rfl⟩ | ⟨_, _, _, k, _⟩
  ·exact absurd ⟨hok, hy⟩ k
  ·exact absurd rfl k
  ·exact ⟨rfl, rfl⟩
  ·have := k j hj
   rw [h] at this
   cases this
 ·rcases k with ⟨k, _⟩ | ⟨_, _, k, _⟩ | ⟨_, _, _, ⟨j, hj, k⟩, _⟩ | ⟨_, _, _, k, k1, rfl⟩
  ·exact absurd ⟨hok, hy⟩ k
  ·exact absurd rfl k
  ·have := h j hj
   rw [k] at this
   cases this
  ·exact ⟨bool_eq h1 k1, rfl⟩
theorem chk_eq {p : PgD} {va vd : Int} {X Y : Nat → Int × Int} {v v2 : Bool} {er er2 : Int} (hok : p.Ok) (hv : Vld va vd) (hx : FrV p.n X) (hy : FrV p.m Y) (h : ChkO p va vd p.n p.m X Y v er) (k : ChkQ p va vd X Y v2 er2) : v = v2 ∧ er = er2 := by
 rcases h with ⟨h, _⟩ | ⟨_, _, _, _, h, _⟩ | ⟨_, _, _, _, _, _, h, rfl, rfl⟩ | ⟨_, _, _, _, _, _, h, h1, rfl⟩
 ·exact absurd ⟨hok, hv, hx, hy⟩ h
 ·exact absurd ⟨rfl, rfl⟩ h
 ·rcases k with ⟨_, rfl, rfl⟩ | ⟨k, _⟩
  ·exact ⟨rfl, rfl⟩
  ·exact absurd k h
 ·rcases k with ⟨k, _⟩ | ⟨_, k1, rfl⟩
  ·exact absurd h k
  ·exact ⟨bool_eq h1 k1, rfl⟩
def three3 {α : Type} (a b c : α) (k : Nat) : α := if k = 0 then a else if k = 1 then b else c

set_option maxRecDepth 100000 in
set_option maxHeartbeats 64000000 in
theorem lawChecks_any (p : PgD) (hs : p.Sm) (va vd : Int) (xa : Option Addr) (Nx xc : Nat) (X : Nat → Int × Int) (ya : Option Addr) (Ny yc : Nat) (Y : Nat → Int × Int) (za : Option Addr) (Nz zc : Nat) (Z : Nat → Int × Int) (w : World) (hp : p.At w) (hx : IFr w xa Nx X) (hy : IFr w ya Ny Y) (hz : IFr w za Nz Z) (hbx : FrB Nx X) (hby : FrB Ny Y) (hbz : FrB Nz Z) (hbv : FrB 1 (fun _ => (va, vd))) :
  Calls Tryz.prog 3 #[p.val, .agg #[.int .i64 va, .int .i64 vd, .slice xa Nx xc, .slice ya Ny yc], .slice za Nz zc] w fun e w' => e = .returned (.bool true) ∧ Below w.heap.size w w' := by
 unfold PgD.val
 obtain ⟨v, hv⟩ := bool_of (FewP p)
 obtain ⟨u, hu⟩ := bool_of (∀ k, k < 3 → three3 Nx Ny Nz k ≤ 20)
 obtain ⟨ok, hok⟩ := bool_of p.Ok
 obtain ⟨ax, hax⟩ := bool_of (FrV Nx X)
 obtain ⟨ay, hay⟩ := bool_of (FrV Ny Y)
 obtain ⟨az, haz⟩ := bool_of (FrV Nz Z)
 obtain ⟨tv, htv⟩ : ∃ x, vB va vd = x := ⟨_, rfl⟩
 obtain ⟨w1, hw1⟩ : ∃ W, W = w.alloc (Obj.cells #[Value.slice p.ca p.n p.cc, .slice p.ra p.m p.rc] 25) := ⟨_, rfl⟩
 obtain ⟨xb, hxb⟩ : ∃ x, x = w.heap.size := ⟨_, rfl⟩
 obtain ⟨w2, hw2⟩ : ∃ W, W = w1.alloc (Obj.cells #[.int .i64 va, .int .i64 vd, .slice xa Nx xc, .slice ya Ny yc] 30) := ⟨_, rfl⟩
 obtain ⟨kb, hkb⟩ : ∃ x, x = xb + 1 := ⟨_, rfl⟩
 have hkw : kb = w1.heap.size := by rw [hkb, hw1, hxb]; simp
 have hb1 : Below w.heap.size w w1 := by rw [hw1]; exact (Below.refl _ _).alloc (Nat.le_refl _) _
 have hb2 : Below w1.heap.size w1 w2 := by rw [hw2]; exact (Below.refl _ _).alloc (Nat.le_refl _) _
 have hB : Blk w1 xb (.slice p.ca p.n p.cc) (.slice p.ra p.m p.rc) := by rw [hw1, hxb]; exact Blk.new _ _ _ _
 have hA : ABk w2 kb (.int .i64 va) (.int .i64 vd) (.slice xa Nx xc) (.slice ya Ny yc) := by
  rw [hw2, hkw]
  exact ⟨by simp, by simp [go_sem], by simp [go_sem], by simp [go_sem], by simp [go_sem], fun o => by simp [go_sem]⟩
 have HB := Lib.hid (below_on hb1 hb2)
 have HXB := Lib.hid (hB.on hb2)
 have HKB := Lib.hid hA
 have CA := Lib.hid (pawake_any w2)
 have HU := Lib.hid hu
 have HOK := Lib.hid hok
 have HAX := Lib.hid hax
 have HAY := Lib.hid hay
 have HAZ := Lib.hid haz
 have HTV : Hid (tv = true ↔ Vld va vd) := by
  show tv = true ↔ Vld va vd
  rw [← htv]
  exact ⟨fun h => Classical.byContradiction fun hn => (by have := vB_no hn; rw [h] at this; cases this), fun h => vB_yes h⟩
 have HCW := Lib.hid (fun W (h : Below w.heap.size w W) => Lib.hid (few_any p v hv W (hp.on h)))
 have HCH := Lib.hid (fun (W : World) => Lib.hid (short_any (some ⟨W.heap.size, 0, none⟩) 3 3 (three3 xa ya za) (three3 Nx Ny Nz) (three3 xc yc zc) (W.alloc (Obj.cells #[Value.slice xa Nx xc, .slice ya Ny yc, .slice za Nz zc] 28)) (fun _ => ⟨_, 0, rfl, by simp, fun k hk => by
  obtain rfl | rfl | rfl : k = 0 ∨ k = 1 ∨ k = 2 := by omega
  all_goals simp [go_sem, three3]⟩) (by decide) u hu))
 have HCC := Lib.hid (fun W (h : Below w.heap.size w W) (h1 : Nx ≤ 1000) (h2 : Ny ≤ 1000) => Lib.hid (Check_any p hs va vd xa Nx xc X ya Ny yc Y W (hp.on h) (hx.on h) (hy.on h) hbx hby hbv h1 h2))
 have HCF := Lib.hid (fun W (h : Below w.heap.size w W) (h1 : Nz ≤ 1000) => Lib.hid (Refutes_any p hs za Nz zc Z W (hp.on h) (hz.on h) hbz h1))
 have HCR := Lib.hid (fun W (h : Below w.heap.size w W) => Lib.hid (rpValid_any p hs ok hok W (hp.on h)))
 have HCT := Lib.hid (fun W => Lib.hid (show Calls Tryz.prog 11 #[.agg #[.int .i64 va, .int .i64 vd]] W fun e w' => e = .returned (.bool tv) ∧ Below W.heap.size W w' by
  rw [← htv]
  have h := hbv 0 (by omega)
  exact refValid_any va vd W h.1.1 h.1.2 h.2.1 h.2.2))
 have HCX := Lib.hid (fun W (h : Below w.heap.size w W) (hN : Nx ≤ 1000) => Lib.hid (rpAll_any xa Nx xc X W (hx.on h) hbx hN ax hax))
 have HCY := Lib.hid (fun W (h : Below w.heap.size w W) (hN : Ny ≤ 1000) => Lib.hid (rpAll_any ya Ny yc Y W (hy.on h) hby hN ay hay))
 have HCZ := Lib.hid (fun W (h : Below w.heap.size w W) (hN : Nz ≤ 1000) => Lib.hid (rpAll_any za Nz zc Z W (hz.on h) hbz hN az haz))
 have HP := Lib.hid hp
 have HX := Lib.hid hx
 have HY := Lib.hid hy
 have HZ := Lib.hid hz
 clear hb1 hb2 hB hA hv hu hok hax hay haz htv hp hx hy hz hbx hby hbz hbv hs
 unfold PgD.val at HCW HCC HCF HCR
 go_enter Tryz.func3, Tryz.ntmps3
 go_upto_region 1 with fail
 rw [← hxb, ← hw1, ← hkb, ← hw2]
 clear hxb hw1 hw2 hkb hkw
 go_wp2_with fail
 (with_reducible refine ((CA.out).mono ?_))
 rintro e w3 ⟨rfl, hb2⟩
 have HXB := Lib.hid (HXB.out.on hb2)
 have HKB := Lib.hid (HKB.out.on hb2)
 have HB := Lib.hid (below_on HB.out hb2)
 clear hb2
 clear CA
 have q0 := HXB.out.2.1
 have q1 := HXB.out.2.2
 cases v
 ·clear HCH HCC HCF HCR HCT HCX HCY HCZ
  go_wp2_with fail
  (with_reducible refine (((HCW.out _ HB.out).out).mono ?_))
  rintro e w3 ⟨rfl, hb2⟩
  have HB := Lib.hid (below_on HB.out hb2)
  clear hb2
  go_wp2_with fail
  go_ret
  exact ⟨rfl, HB.out⟩
 go_wp2_with fail
 (with_reducible refine (((HCW.out _ HB.out).out).mono ?_))
 rintro e w3 ⟨rfl, hb2⟩
 have HXB := Lib.hid (HXB.out.on hb2)
 have HKB := Lib.hid (HKB.out.on hb2)
 have HB := Lib.hid (below_on HB.out hb2)
 clear hb2
 clear HCW q0 q1
 have H4 : Hid (Below w3.heap.size w3 (w3.alloc (Obj.cells #[Value.slice xa Nx xc, .slice ya Ny yc, .slice za Nz zc] 28))) := (Below.refl _ _).alloc (Nat.le_refl _) _
 have k0 := HKB.out.c0
 have k1 := HKB.out.c1
 have k2 := HKB.out.c2
 have k3 := HKB.out.c3
 cases u
 ·clear HCC HCF HCR HCT HCX HCY HCZ
  go_wp2_with fail
  (with_reducible refine (((HCH.out w3).out).mono ?_))
  rintro e w4 ⟨rfl, hb2⟩
  have HB := Lib.hid (below_on HB.out (below_on H4.out hb2))
  clear hb2
  go_wp2_with fail
  go_ret
  exact ⟨rfl, HB.out⟩
 have hNx : Nx ≤ 20 := HU.out.1 rfl 0 (by decide)
 have hNy : Ny ≤ 20 := HU.out.1 rfl 1 (by decide)
 have hNz : Nz ≤ 20 := HU.out.1 rfl 2 (by decide)
 go_wp2_with fail
 (with_reducible refine (((HCH.out w3).out).mono ?_))
 rintro e w4 ⟨rfl, hb2⟩
 have hb2 := below_on H4.out hb2
 have HXB := Lib.hid (HXB.out.on hb2)
 have HKB := Lib.hid (HKB.out.on hb2)
 have HB := Lib.hid (below_on HB.out hb2)
 clear hb2
 clear HCH H4 HU k0 k1 k2 k3
 have q0 := HXB.out.2.1
 have q1 := HXB.out.2.2
 have k0 := HKB.out.c0
 have k1 := HKB.out.c1
 have k2 := HKB.out.c2
 have k3 := HKB.out.c3
 go_wp2_with fail
 (with_reducible refine (((HCC.out _ HB.out (by omega) (by omega)).out).mono ?_))
 rintro e w5 ⟨hb2, cv, ce, rfl, hco⟩
 have HCO := Lib.hid hco
 have HXB := Lib.hid (HXB.out.on hb2)
 have HKB := Lib.hid (HKB.out.on hb2)
 have HB := Lib.hid (below_on HB.out hb2)
 clear hb2
 clear HCC q0 q1 k0 k1 k2 k3 hco
 have q0 := HXB.out.2.1
 have q1 := HXB.out.2.2
 go_wp2_with fail
 (with_reducible refine (((HCF.out _ HB.out (by omega)).out).mono ?_))
 rintro e w6 ⟨hb2, cr, re, rfl, hro⟩
 have HRO := Lib.hid hro
 have HXB := Lib.hid (HXB.out.on hb2)
 have HKB := Lib.hid (HKB.out.on hb2)
 have HB := Lib.hid (below_on HB.out hb2)
 clear hb2
 clear HCF q0 q1 hro
 have q0 := HXB.out.2.1
 have q1 := HXB.out.2.2
 go_wp2_with fail
 (with_reducible refine (((HCR.out _ HB.out).out).mono ?_))
 rintro e w7 ⟨rfl, hb2⟩
 have HXB := Lib.hid (HXB.out.on hb2)
 have HKB := Lib.hid (HKB.out.on hb2)
 have HB := Lib.hid (below_on HB.out hb2)
 clear hb2
 clear HCR q0 q1
 cases ok
 ·have hno : ¬ p.Ok := fun h => by have := HOK.out.2 h; cases this
  have h1 : cv = false ∧ ce = 1 := by
   rcases HCO.out with ⟨_, a, b⟩ | ⟨a, _⟩ | ⟨a, _⟩ | ⟨a, _⟩
   ·exact ⟨a, b⟩
   all_goals exact absurd a hno
  have h2 : cr = false ∧ re = 1 := by
   rcases HRO.out with ⟨_, a, b⟩ | ⟨a, _⟩ | ⟨a, _⟩ | ⟨a, _⟩
   ·exact ⟨a, b⟩
   all_goals exact absurd a hno
  obtain ⟨rfl, rfl⟩ := h1
  obtain ⟨rfl, rfl⟩ := h2
  clear HCO HRO HCT HCX HCY HCZ hno
  go_wp2_with fail
  go_ret
  exact ⟨rfl, HB.out⟩
 have HOKP : Hid p.Ok := HOK.out.1 rfl
 have k0 := HKB.out.c0
 have k1 := HKB.out.c1
 have k2 := HKB.out.c2
 have k3 := HKB.out.c3
 go_wp2_with fail
 (with_reducible refine (((HCT.out _).out).mono ?_))
 rintro e w8 ⟨rfl, hb2⟩
 have HXB := Lib.hid (HXB.out.on hb2)
 have HKB := Lib.hid (HKB.out.on hb2)
 have HB := Lib.hid (below_on HB.out hb2)
 clear hb2
 clear HCT k0 k1 k2 k3
 cases tv
 ·have hno : ¬ Vld va vd := fun h => by have := HTV.out.2 h; cases this
  have h1 : cv = false ∧ ce = 1 := by
   rcases HCO.out with ⟨_, a, b⟩ | ⟨a1, a2, a3, a4, _⟩ | ⟨a1, a2, a3, a4, _⟩ | ⟨a1, a2, a3, a4, _⟩
   ·exact ⟨a, b⟩
   all_goals exact absurd (by assumption) hno
  obtain ⟨rfl, rfl⟩ := h1
  clear HCO hno
  go_wp2_with fail
  (with_reducible refine (((HCZ.out _ HB.out (by omega)).out).mono ?_))
  rintro e wY ⟨rfl, hb2⟩
  have HXB := Lib.hid (HXB.out.on hb2)
  have HKB := Lib.hid (HKB.out.on hb2)
  have HB := Lib.hid (below_on HB.out hb2)
  clear hb2
  clear HCZ
  cases az
  ·have hno : ¬ FrV Nz Z := fun h => by have := HAZ.out.2 h; cases this
   have h2 : cr = false ∧ re = 1 := by
    rcases HRO.out with ⟨_, a, b⟩ | ⟨_, a, _⟩ | ⟨_, a, _⟩ | ⟨_, a, _⟩
    ·exact ⟨a, b⟩
    all_goals exact absurd a hno
   obtain ⟨rfl, rfl⟩ := h2
   clear HRO hno
   go_wp2_with fail
   go_ret
   exact ⟨rfl, HB.out⟩
  have HFZ : Hid (FrV Nz Z) := HAZ.out.1 rfl
  have r1 := HXB.out.2.2
  by_cases hze : Nz = p.m
  case neg =>
   have h2 : cr = false ∧ re = 3 := by
    rcases HRO.out with ⟨a, _⟩ | ⟨_, _, _, a, b⟩ | ⟨_, _, a, _⟩ | ⟨_, _, a, _⟩
    ·exact absurd ⟨HOKP.out, HFZ.out⟩ a
    ·exact ⟨a, b⟩
    ·exact absurd a hze
    ·exact absurd a hze
   obtain ⟨rfl, rfl⟩ := h2
   have hz2 : ((Nz : Int) != (p.m : Int)) = true := by simp; omega
   have hz3 : ¬ ((Nz : Int) = (p.m : Int)) := by omega
   clear HRO hze
   go_wp2_with fail
   go_ret
   exact ⟨rfl, HB.out⟩
  subst hze
  have hz2 : ((p.m : Int) != (p.m : Int)) = false := by simp
  have r0 := HXB.out.2.1
  have HCQ := Lib.hid (rpRefutes_any p HOKP.out za zc Z wY (HP.out.on HB.out) (HZ.out.on HB.out) HFZ.out)
  unfold PgD.val at HCQ
  go_wp2_with fail
  (with_reducible refine ((HCQ.out).mono ?_))
  rintro e wZ ⟨hb2, cr2, re2, rfl, hrq⟩
  obtain ⟨rfl, rfl⟩ := ref_eq HOKP.out HFZ.out HRO.out hrq
  have HB := Lib.hid (below_on HB.out hb2)
  clear hb2 HCQ r0 r1 hrq HRO hz2
  cases cr
  ·go_wp2_with fail
   go_ret
   exact ⟨rfl, HB.out⟩
  ·go_wp2_with fail
   go_ret
   exact ⟨rfl, HB.out⟩
 have k0 := HKB.out.c0
 have k1 := HKB.out.c1
 have k2 := HKB.out.c2
 have k3 := HKB.out.c3
 go_wp2_with fail
 (with_reducible refine (((HCX.out _ HB.out (by omega)).out).mono ?_))
 rintro e w9 ⟨rfl, hb2⟩
 have HXB := Lib.hid (HXB.out.on hb2)
 have HKB := Lib.hid (HKB.out.on hb2)
 have HB := Lib.hid (below_on HB.out hb2)
 clear hb2
 clear HCX k0 k1 k2 k3
 cases ax
 ·have hno : ¬ FrV Nx X := fun h => by have := HAX.out.2 h; cases this
  have h1 : cv = false ∧ ce = 1 := by
   rcases HCO.out with ⟨_, a, b⟩ | ⟨a1, a2, a3, a4, _⟩ | ⟨a1, a2, a3, a4, _⟩ | ⟨a1, a2, a3, a4, _⟩
   ·exact ⟨a, b⟩
   all_goals exact absurd (by assumption) hno
  obtain ⟨rfl, rfl⟩ := h1
  clear HCO hno
  go_wp2_with fail
  (with_reducible refine (((HCZ.out _ HB.out (by omega)).out).mono ?_))
  rintro e wY ⟨rfl, hb2⟩
  have HXB := Lib.hid (HXB.out.on hb2)
  have HKB := Lib.hid (HKB.out.on hb2)
  have HB := Lib.hid (below_on HB.out hb2)
  clear hb2
  clear HCZ
  cases az
  ·have hno : ¬ FrV Nz Z := fun h => by have := HAZ.out.2 h; cases this
   have h2 : cr = false ∧ re = 1 := by
    rcases HRO.out with ⟨_, a, b⟩ | ⟨_, a, _⟩ | ⟨_, a, _⟩ | ⟨_, a, _⟩
    ·exact ⟨a, b⟩
    all_goals exact absurd a hno
   obtain ⟨rfl, rfl⟩ := h2
   clear HRO hno
   go_wp2_with fail
   go_ret
   exact ⟨rfl, HB.out⟩
  have HFZ : Hid (FrV Nz Z) := HAZ.out.1 rfl
  have r1 := HXB.out.2.2
  by_cases hze : Nz = p.m
  case neg =>
   have h2 : cr = false ∧ re = 3 := by
    rcases HRO.out with ⟨a, _⟩ | ⟨_, _, _, a, b⟩ | ⟨_, _, a, _⟩ | ⟨_, _, a, _⟩
    ·exact absurd ⟨HOKP.out, HFZ.out⟩ a
    ·exact ⟨a, b⟩
    ·exact absurd a hze
    ·exact absurd a hze
   obtain ⟨rfl, rfl⟩ := h2
   have hz2 : ((Nz : Int) != (p.m : Int)) = true := by simp; omega
   have hz3 : ¬ ((Nz : Int) = (p.m : Int)) := by omega
   clear HRO hze
   go_wp2_with fail
   go_ret
   exact ⟨rfl, HB.out⟩
  subst hze
  have hz2 : ((p.m : Int) != (p.m : Int)) = false := by simp
  have r0 := HXB.out.2.1
  have HCQ := Lib.hid (rpRefutes_any p HOKP.out za zc Z wY (HP.out.on HB.out) (HZ.out.on HB.out) HFZ.out)
  unfold PgD.val at HCQ
  go_wp2_with fail
  (with_reducible refine ((HCQ.out).mono ?_))
  rintro e wZ ⟨hb2, cr2, re2, rfl, hrq⟩
  obtain ⟨rfl, rfl⟩ := ref_eq HOKP.out HFZ.out HRO.out hrq
  have HB := Lib.hid (below_on HB.out hb2)
  clear hb2 HCQ r0 r1 hrq HRO hz2
  cases cr
  ·go_wp2_with fail
   go_ret
   exact ⟨rfl, HB.out⟩
  ·go_wp2_with fail
   go_ret
   exact ⟨rfl, HB.out⟩
 have k0 := HKB.out.c0
 have k1 := HKB.out.c1
 have k2 := HKB.out.c2
 have k3 := HKB.out.c3
 go_wp2_with fail
 (with_reducible refine (((HCY.out _ HB.out (by omega)).out).mono ?_))
 rintro e wA ⟨rfl, hb2⟩
 have HXB := Lib.hid (HXB.out.on hb2)
 have HKB := Lib.hid (HKB.out.on hb2)
 have HB := Lib.hid (below_on HB.out hb2)
 clear hb2
 clear HCY k0 k1 k2 k3
 cases ay
 ·have hno : ¬ FrV Ny Y := fun h => by have := HAY.out.2 h; cases this
  have h1 : cv = false ∧ ce = 1 := by
   rcases HCO.out with ⟨_, a, b⟩ | ⟨a1, a2, a3, a4, _⟩ | ⟨a1, a2, a3, a4, _⟩ | ⟨a1, a2, a3, a4, _⟩
   ·exact ⟨a, b⟩
   all_goals exact absurd (by assumption) hno
  obtain ⟨rfl, rfl⟩ := h1
  clear HCO hno
  go_wp2_with fail
  (with_reducible refine (((HCZ.out _ HB.out (by omega)).out).mono ?_))
  rintro e wY ⟨rfl, hb2⟩
  have HXB := Lib.hid (HXB.out.on hb2)
  have HKB := Lib.hid (HKB.out.on hb2)
  have HB := Lib.hid (below_on HB.out hb2)
  clear hb2
  clear HCZ
  cases az
  ·have hno : ¬ FrV Nz Z := fun h => by have := HAZ.out.2 h; cases this
   have h2 : cr = false ∧ re = 1 := by
    rcases HRO.out with ⟨_, a, b⟩ | ⟨_, a, _⟩ | ⟨_, a, _⟩ | ⟨_, a, _⟩
    ·exact ⟨a, b⟩
    all_goals exact absurd a hno
   obtain ⟨rfl, rfl⟩ := h2
   clear HRO hno
   go_wp2_with fail
   go_ret
   exact ⟨rfl, HB.out⟩
  have HFZ : Hid (FrV Nz Z) := HAZ.out.1 rfl
  have r1 := HXB.out.2.2
  by_cases hze : Nz = p.m
  case neg =>
   have h2 : cr = false ∧ re = 3 := by
    rcases HRO.out with ⟨a, _⟩ | ⟨_, _, _, a, b⟩ | ⟨_, _, a, _⟩ | ⟨_, _, a, _⟩
    ·exact absurd ⟨HOKP.out, HFZ.out⟩ a
    ·exact ⟨a, b⟩
    ·exact absurd a hze
    ·exact absurd a hze
   obtain ⟨rfl, rfl⟩ := h2
   have hz2 : ((Nz : Int) != (p.m : Int)) = true := by simp; omega
   have hz3 : ¬ ((Nz : Int) = (p.m : Int)) := by omega
   clear HRO hze
   go_wp2_with fail
   go_ret
   exact ⟨rfl, HB.out⟩
  subst hze
  have hz2 : ((p.m : Int) != (p.m : Int)) = false := by simp
  have r0 := HXB.out.2.1
  have HCQ := Lib.hid (rpRefutes_any p HOKP.out za zc Z wY (HP.out.on HB.out) (HZ.out.on HB.out) HFZ.out)
  unfold PgD.val at HCQ
  go_wp2_with fail
  (with_reducible refine ((HCQ.out).mono ?_))
  rintro e wZ ⟨hb2, cr2, re2, rfl, hrq⟩
  obtain ⟨rfl, rfl⟩ := ref_eq HOKP.out HFZ.out HRO.out hrq
  have HB := Lib.hid (below_on HB.out hb2)
  clear hb2 HCQ r0 r1 hrq HRO hz2
  cases cr
  ·go_wp2_with fail
   go_ret
   exact ⟨rfl, HB.out⟩
  ·go_wp2_with fail
   go_ret
   exact ⟨rfl, HB.out⟩
 have HG : Hid (Vld va vd ∧ FrV Nx X ∧ FrV Ny Y) := ⟨HTV.out.1 (by trivial), HAX.out.1 (by trivial), HAY.out.1 (by trivial)⟩
 have q0 := HXB.out.2.1
 have q1 := HXB.out.2.2
 have k0 := HKB.out.c0
 have k1 := HKB.out.c1
 have k2 := HKB.out.c2
 have k3 := HKB.out.c3
 by_cases hne : Nx = p.n ∧ Ny = p.m
 case neg =>
  have h1 : cv = false ∧ ce = 3 := by
   rcases HCO.out with ⟨a, _⟩ | ⟨_, _, _, _, _, a, b⟩ | ⟨_, _, _, _, a, b, _⟩ | ⟨_, _, _, _, a, b, _⟩
   ·exact absurd ⟨HOKP.out, HG.out.1, HG.out.2.1, HG.out.2.2⟩ a
   ·exact ⟨a, b⟩
   ·exact absurd ⟨a, b⟩ hne
   ·exact absurd ⟨a, b⟩ hne
  obtain ⟨rfl, rfl⟩ := h1
  clear HCO HG
  by_cases hn1 : Nx = p.n
  ·have hm1 : ¬ Ny = p.m := fun h => hne ⟨hn1, h⟩
   have hm2 : ((Ny : Int) != (p.m : Int)) = true := by simp; omega
   have hm3 : ¬ ((Ny : Int) = (p.m : Int)) := by omega
   have hm4 : ((Nx : Int) != (p.n : Int)) = false := by simp; omega
   have hm5 : (Nx : Int) = (p.n : Int) := by omega
   clear hne
   go_wp2_with fail
   (with_reducible refine (((HCZ.out _ HB.out (by omega)).out).mono ?_))
   rintro e wY ⟨rfl, hb2⟩
   have HXB := Lib.hid (HXB.out.on hb2)
   have HKB := Lib.hid (HKB.out.on hb2)
   have HB := Lib.hid (below_on HB.out hb2)
   clear hb2
   clear HCZ
   cases az
   ·have hno : ¬ FrV Nz Z := fun h => by have := HAZ.out.2 h; cases this
    have h2 : cr = false ∧ re = 1 := by
     rcases HRO.out with ⟨_, a, b⟩ | ⟨_, a, _⟩ | ⟨_, a, _⟩ | ⟨_, a, _⟩
     ·exact ⟨a, b⟩
     all_goals exact absurd a hno
    obtain ⟨rfl, rfl⟩ := h2
    clear HRO hno
    go_wp2_with fail
    go_ret
    exact ⟨rfl, HB.out⟩
   have HFZ : Hid (FrV Nz Z) := HAZ.out.1 rfl
   have r1 := HXB.out.2.2
   by_cases hze : Nz = p.m
   case neg =>
    have h2 : cr = false ∧ re = 3 := by
     rcases HRO.out with ⟨a, _⟩ | ⟨_, _, _, a, b⟩ | ⟨_, _, a, _⟩ | ⟨_, _, a, _⟩
     ·exact absurd ⟨HOKP.out, HFZ.out⟩ a
     ·exact ⟨a, b⟩
     ·exact absurd a hze
     ·exact absurd a hze
    obtain ⟨rfl, rfl⟩ := h2
    have hz2 : ((Nz : Int) != (p.m : Int)) = true := by simp; omega
    have hz3 : ¬ ((Nz : Int) = (p.m : Int)) := by omega
    clear HRO hze
    go_wp2_with fail
    go_ret
    exact ⟨rfl, HB.out⟩
   subst hze
   have hz2 : ((p.m : Int) != (p.m : Int)) = false := by simp
   have r0 := HXB.out.2.1
   have HCQ := Lib.hid (rpRefutes_any p HOKP.out za zc Z wY (HP.out.on HB.out) (HZ.out.on HB.out) HFZ.out)
   unfold PgD.val at HCQ
   go_wp2_with fail
   (with_reducible refine ((HCQ.out).mono ?_))
   rintro e wZ ⟨hb2, cr2, re2, rfl, hrq⟩
   obtain ⟨rfl, rfl⟩ := ref_eq HOKP.out HFZ.out HRO.out hrq
   have HB := Lib.hid (below_on HB.out hb2)
   clear hb2 HCQ r0 r1 hrq HRO hz2
   cases cr
   ·go_wp2_with fail
    go_ret
    exact ⟨rfl, HB.out⟩
   ·go_wp2_with fail
    go_ret
    exact ⟨rfl, HB.out⟩
  ·have hm2 : ((Nx : Int) != (p.n : Int)) = true := by simp; omega
   have hm3 : ¬ ((Nx : Int) = (p.n : Int)) := by omega
   clear hne
   go_wp2_with fail
   (with_reducible refine (((HCZ.out _ HB.out (by omega)).out).mono ?_))
   rintro e wY ⟨rfl, hb2⟩
   have HXB := Lib.hid (HXB.out.on hb2)
   have HKB := Lib.hid (HKB.out.on hb2)
   have HB := Lib.hid (below_on HB.out hb2)
   clear hb2
   clear HCZ
   cases az
   ·have hno : ¬ FrV Nz Z := fun h => by have := HAZ.out.2 h; cases this
    have h2 : cr = false ∧ re = 1 := by
     rcases HRO.out with ⟨_, a, b⟩ | ⟨_, a, _⟩ | ⟨_, a, _⟩ | ⟨_, a, _⟩
     ·exact ⟨a, b⟩
     all_goals exact absurd a hno
    obtain ⟨rfl, rfl⟩ := h2
    clear HRO hno
    go_wp2_with fail
    go_ret
    exact ⟨rfl, HB.out⟩
   have HFZ : Hid (FrV Nz Z) := HAZ.out.1 rfl
   have r1 := HXB.out.2.2
   by_cases hze : Nz = p.m
   case neg =>
    have h2 : cr = false ∧ re = 3 := by
     rcases HRO.out with ⟨a, _⟩ | ⟨_, _, _, a, b⟩ | ⟨_, _, a, _⟩ | ⟨_, _, a, _⟩
     ·exact absurd ⟨HOKP.out, HFZ.out⟩ a
     ·exact ⟨a, b⟩
     ·exact absurd a hze
     ·exact absurd a hze
    obtain ⟨rfl, rfl⟩ := h2
    have hz2 : ((Nz : Int) != (p.m : Int)) = true := by simp; omega
    have hz3 : ¬ ((Nz : Int) = (p.m : Int)) := by omega
    clear HRO hze
    go_wp2_with fail
    go_ret
    exact ⟨rfl, HB.out⟩
   subst hze
   have hz2 : ((p.m : Int) != (p.m : Int)) = false := by simp
   have r0 := HXB.out.2.1
   have HCQ := Lib.hid (rpRefutes_any p HOKP.out za zc Z wY (HP.out.on HB.out) (HZ.out.on HB.out) HFZ.out)
   unfold PgD.val at HCQ
   go_wp2_with fail
   (with_reducible refine ((HCQ.out).mono ?_))
   rintro e wZ ⟨hb2, cr2, re2, rfl, hrq⟩
   obtain ⟨rfl, rfl⟩ := ref_eq HOKP.out HFZ.out HRO.out hrq
   have HB := Lib.hid (below_on HB.out hb2)
   clear hb2 HCQ r0 r1 hrq HRO hz2
   cases cr
   ·go_wp2_with fail
    go_ret
    exact ⟨rfl, HB.out⟩
   ·go_wp2_with fail
    go_ret
    exact ⟨rfl, HB.out⟩
 obtain ⟨rfl, rfl⟩ := hne
 have hm2 : ((p.n : Int) != (p.n : Int)) = false := by simp
 have hm3 : ((p.m : Int) != (p.m : Int)) = false := by simp
 have HCQ := Lib.hid (rpCheck_any p HOKP.out va vd xa xc X ya yc Y wA (HP.out.on HB.out) (HX.out.on HB.out) (HY.out.on HB.out) HG.out.2.1 HG.out.2.2 HG.out.1)
 unfold PgD.val at HCQ
 go_wp2_with fail
 (with_reducible refine ((HCQ.out).mono ?_))
 rintro e wB ⟨hb2, cv2, ce2, rfl, hcq⟩
 obtain ⟨rfl, rfl⟩ := chk_eq HOKP.out HG.out.1 HG.out.2.1 HG.out.2.2 HCO.out hcq
 have HXB := Lib.hid (HXB.out.on hb2)
 have HKB := Lib.hid (HKB.out.on hb2)
 have HB := Lib.hid (below_on HB.out hb2)
 clear hb2
 clear HCQ q0 q1 k0 k1 k2 k3 hcq HCO hm2 hm3
 go_wp2_with fail
 (with_reducible refine (((HCZ.out _ HB.out (by omega)).out).mono ?_))
 rintro e wY ⟨rfl, hb2⟩
 have HXB := Lib.hid (HXB.out.on hb2)
 have HKB := Lib.hid (HKB.out.on hb2)
 have HB := Lib.hid (below_on HB.out hb2)
 clear hb2
 clear HCZ
 cases az
 ·have hno : ¬ FrV Nz Z := fun h => by have := HAZ.out.2 h; cases this
  have h2 : cr = false ∧ re = 1 := by
   rcases HRO.out with ⟨_, a, b⟩ | ⟨_, a, _⟩ | ⟨_, a, _⟩ | ⟨_, a, _⟩
   ·exact ⟨a, b⟩
   all_goals exact absurd a hno
  obtain ⟨rfl, rfl⟩ := h2
  clear HRO hno
  go_wp2_with fail
  go_ret
  exact ⟨rfl, HB.out⟩
 have HFZ : Hid (FrV Nz Z) := HAZ.out.1 rfl
 have r1 := HXB.out.2.2
 by_cases hze : Nz = p.m
 case neg =>
  have h2 : cr = false ∧ re = 3 := by
   rcases HRO.out with ⟨a, _⟩ | ⟨_, _, _, a, b⟩ | ⟨_, _, a, _⟩ | ⟨_, _, a, _⟩
   ·exact absurd ⟨HOKP.out, HFZ.out⟩ a
   ·exact ⟨a, b⟩
   ·exact absurd a hze
   ·exact absurd a hze
  obtain ⟨rfl, rfl⟩ := h2
  have hz2 : ((Nz : Int) != (p.m : Int)) = true := by simp; omega
  have hz3 : ¬ ((Nz : Int) = (p.m : Int)) := by omega
  clear HRO hze
  go_wp2_with fail
  go_ret
  exact ⟨rfl, HB.out⟩
 subst hze
 have hz2 : ((p.m : Int) != (p.m : Int)) = false := by simp
 have r0 := HXB.out.2.1
 have HCQ := Lib.hid (rpRefutes_any p HOKP.out za zc Z wY (HP.out.on HB.out) (HZ.out.on HB.out) HFZ.out)
 unfold PgD.val at HCQ
 go_wp2_with fail
 (with_reducible refine ((HCQ.out).mono ?_))
 rintro e wZ ⟨hb2, cr2, re2, rfl, hrq⟩
 obtain ⟨rfl, rfl⟩ := ref_eq HOKP.out HFZ.out HRO.out hrq
 have HB := Lib.hid (below_on HB.out hb2)
 clear hb2 HCQ r0 r1 hrq HRO hz2
 cases cr
 ·go_wp2_with fail
  go_ret
  exact ⟨rfl, HB.out⟩
 ·go_wp2_with fail
  go_ret
  exact ⟨rfl, HB.out⟩
theorem checks_at (p : PgD) (va vd : Int) (xa : Option Addr) (Nx xc : Nat) (X : Nat → Int × Int) (ya : Option Addr) (Ny yc : Nat) (Y : Nat → Int × Int) (za : Option Addr) (Nz zc : Nat) (Z : Nat → Int × Int) (w : World) (hp : p.At w) (hs : p.Sm) (hx : IFr w xa Nx X) (hy : IFr w ya Ny Y) (hfx : ∀ k, k < Nx → FrI (X k)) (hfy : ∀ k, k < Ny → FrI (Y k)) (hfv : FrI (va, vd)) (hz : IFr w za Nz Z) (hfz : ∀ k, k < Nz → FrI (Z k)) (_ : Nz ≤ 9223372036854775807) :
  Calls Tryz.prog 3 #[p.val, .agg #[.int .i64 va, .int .i64 vd, .slice xa Nx xc, .slice ya Ny yc], .slice za Nz zc] w fun e w' => e = .returned (.bool true) ∧ Below w.heap.size w w' :=
 lawChecks_any p hs va vd xa Nx xc X ya Ny yc Y za Nz zc Z w hp hx hy hz (fun j hj => by have := hfx j hj; obtain ⟨a, b, c, d⟩ := this; omega) (fun j hj => by have := hfy j hj; obtain ⟨a, b, c, d⟩ := this; omega) (fun j hj => by have := hfz j hj; obtain ⟨a, b, c, d⟩ := this; omega) (fun j hj => by obtain ⟨a, b, c, d⟩ := hfv; show (-9223372036854775808 ≤ va ∧ va ≤ 9223372036854775807) ∧ -9223372036854775808 ≤ vd ∧ vd ≤ 9223372036854775807; omega)
end Go.Proofs.YtggpdhdbeokkcaaGreat

namespace Go.Proofs.YtggpdhdbeokkcaaGreat
set_option linter.unusedVariables false
open Go.RowKit Go.Shelf Go.ChangeShapes Go.WideShapes Go.Joins Go.Deep

/-- A list of fractions at one cell. -/
theorem frs_at {H : Type} {enc : TypeId × Value → H} {W : World} {v : Value} {x : DataW H × List MemPlace} {fuel : Nat} (hx : DataW.trod enc Tryz.prog W 0 (fun _ => true) true fuel 28 [v] = some x) :
  ∃ (ao : Option Addr) (n cp : Nat) (X : Nat → Int × Int), v = .slice ao n cp ∧ IFr W ao n X ∧ (∀ k, k < n → FrI (X k)) := by
 rcases open_slice_pairs Tryz.underlying28 Tryz.underlying27 (by kernel_rfl) rfl rfl (by kernel_rfl) (by kernel_rfl) hx with ⟨hc, _⟩ | ⟨a, len2, cap2, m, k, V0, V1, D0, D1, P0, P1, hc, _, hl, hm, hmm, _, hall⟩
 ·simp at hc
  subst hc
  exact ⟨none, 0, 0, fun _ => (0, 1), rfl, fun h => by omega, fun k h => by omega⟩
 ·simp at hc
  subst hc
  simp only [if_true] at hmm
  subst hmm
  have each : ∀ i, i < m → ∃ q : Int × Int, V0 i = .int .i64 q.1 ∧ V1 i = .int .i64 q.2 ∧ FrI q := fun i hi => by
   obtain ⟨x, h1, _, w1⟩ := DataW.trod_int Tryz.underlying3 (hall i hi).2.2.1
   obtain ⟨y, h2, _, w2⟩ := DataW.trod_int Tryz.underlying3 (hall i hi).2.2.2
   simp only [List.cons.injEq, and_true] at h1 h2
   exact ⟨(x, y), h1, h2, ⟨(i64_bd w1).1, (i64_bd w1).2, (i64_bd w2).1, (i64_bd w2).2⟩⟩
  obtain ⟨q, hq⟩ := choose_lt each
  refine ⟨some a, len2, m, q, rfl, fun hn => ?_, fun k hk => (hq k (by omega)).2.2⟩
  obtain ⟨sb, so, spot⟩ := a
  have hspot : spot = none := by simpa [Addr.add] using World.cell?_spot (hall 0 (by omega)).1
  subst hspot
  have c0 := (hall 0 (by omega)).1
  refine ⟨sb, so, rfl, Lib.lt_of_cell (by simpa [Addr.add] using c0), fun k hk => ?_⟩
  have h1 := (hall k (by omega)).1
  have h2 := (hall k (by omega)).2.1
  obtain ⟨e1, e2, _⟩ := hq k (by omega)
  rw [e1] at h1
  rw [e2] at h2
  exact ⟨by simpa [Addr.add_lit] using h1, by simpa [Addr.add_lit, Nat.add_assoc] using h2⟩

set_option maxRecDepth 100000 in
theorem open_ans {H : Type} {enc : TypeId × Value → H} {W : World} {base : Nat} {v : Value} {d : DataW H} {p : List MemPlace} (hval : Value.okWide Tryz.prog W .any base 30 v) (h : DataW.Trod enc Tryz.prog W 0 (fun _ => true) true 30 v d p) :
  ∃ (va vd : Int) (xa : Option Addr) (Nx xc : Nat) (X : Nat → Int × Int) (ya : Option Addr) (Ny yc : Nat) (Y : Nat → Int × Int), v = .agg #[.int .i64 va, .int .i64 vd, .slice xa Nx xc, .slice ya Ny yc] ∧ IFr W xa Nx X ∧ IFr W ya Ny Y ∧ (∀ k, k < Nx → FrI (X k)) ∧ (∀ k, k < Ny → FrI (Y k)) ∧ FrI (va, vd) := by
 obtain ⟨cs, rfl, hsz⟩ := okWide_struct Tryz.underlying30 hval
 have c4 : Tryz.prog.cellsOf 30 = 4 := by kernel_rfl
 have cf : Tryz.prog.cellsOf 27 = 2 := by kernel_rfl
 have cr : Tryz.prog.cellsOf 28 = 1 := by kernel_rfl
 have ci : Tryz.prog.cellsOf 3 = 1 := by kernel_rfl
 obtain ⟨c0, c1, c2, c3, rfl⟩ := array4 (hsz.trans c4)
 obtain ⟨fuel, hf⟩ := h
 obtain ⟨y0, y1, y2, n, _, _, h0, h1, h2⟩ := trod_struct3 Tryz.underlying30 hf
 have f0 : DataW.trod enc Tryz.prog W 0 (fun _ => true) true n 27 [c0, c1] = some y0 := by simpa [Value.cells, cf] using h0
 have f1 : DataW.trod enc Tryz.prog W 0 (fun _ => true) true n 28 [c2] = some y1 := by simpa [Value.cells, cr] using h1
 have f2 : DataW.trod enc Tryz.prog W 0 (fun _ => true) true n 28 [c3] = some y2 := by simpa [Value.cells, cr] using h2
 obtain ⟨z0, z1, m, _, _, g0, g1⟩ := trod_struct2 Tryz.underlying27 f0
 have g0' : DataW.trod enc Tryz.prog W 0 (fun _ => true) true m 3 [c0] = some z0 := by simpa [ci] using g0
 have g1' : DataW.trod enc Tryz.prog W 0 (fun _ => true) true m 3 [c1] = some z1 := by simpa [ci] using g1
 obtain ⟨va, e0, _, w0⟩ := DataW.trod_int Tryz.underlying3 g0'
 obtain ⟨vd, e1, _, w1⟩ := DataW.trod_int Tryz.underlying3 g1'
 simp only [List.cons.injEq, and_true] at e0 e1
 subst e0
 subst e1
 obtain ⟨xa, Nx, xc, X, rfl, hx, hfx⟩ := frs_at f1
 obtain ⟨ya, Ny, yc, Y, rfl, hy, hfy⟩ := frs_at f2
 exact ⟨va, vd, xa, Nx, xc, X, ya, Ny, yc, Y, rfl, hx, hy, hfx, hfy, ⟨(i64_bd w0).1, (i64_bd w0).2, (i64_bd w1).1, (i64_bd w1).2⟩⟩
end Go.Proofs.YtggpdhdbeokkcaaGreat
