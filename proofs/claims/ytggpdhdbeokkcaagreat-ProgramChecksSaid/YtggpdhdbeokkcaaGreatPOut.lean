/- Layer 5: what is read off a table: its value, its point, its multipliers. -/
import Derived.Test.YtggpdhdbeokkcaaGreatPNew
namespace Go.Proofs.YtggpdhdbeokkcaaGreat
set_option linter.unusedVariables false
open Go.RowKit Go.Shelf

structure PntR (tb rb Cb m n i c R wd xb : Nat) (G C : Nat → Nat) (va fx fy : Int) (Wc : World) (L : Nat → Bool) (v : Nat → Value) (W : World) : Prop where
 st : L 16 = false → Below Wc.heap.size Wc W
 s1 : Had L 16 (∃ W2, Below Wc.heap.size Wc W2 ∧ W = (W2.setCell ⟨xb, c * 2, none⟩ (.int .i64 fx)).setCell ⟨xb, c * 2 + 1, none⟩ (.int .i64 fy))
 w4 : Had L 4 (∀ j ∈ [3], L j = true)
 w5 : Had L 5 (∀ j ∈ [4], L j = true)
 w6 : Had L 6 (∀ j ∈ [5], L j = true)
 w8 : Had L 8 (∀ j ∈ [6, 7], L j = true)
 w9 : Had L 9 (∀ j ∈ [8], L j = true)
 w11 : Had L 11 (∀ j ∈ [10], L j = true)
 w12 : Had L 12 (∀ j ∈ [9, 11], L j = true)
 w13 : Had L 13 (∀ j ∈ [12], L j = true)
 w14 : Had L 14 (∀ j ∈ [2, 13], L j = true)
 w15 : Had L 15 (∀ j ∈ [0, 1], L j = true)
 w16 : Had L 16 (∀ j ∈ [0, 1, 2, 3, 4, 5, 6, 7, 8, 9, 10, 11, 12, 13, 14, 15], L j = true)
 f0 : Had L 0 (v 38 = .slice (some ⟨xb, 0, none⟩) (n) (n))
 f1 : Had L 1 (v 39 = .int .i64 (c : Int))
 f2 : Had L 2 (v 40 = .pointer (some ⟨tb, 0, none⟩))
 f3 : Had L 3 (v 41 = .pointer (some ⟨tb, 0, none⟩))
 f4 : Had L 4 (v 42 = .pointer (some ⟨tb, 0, none⟩))
 f5 : Had L 5 (v 43 = .pointer (some ⟨tb, 0, none⟩))
 f6 : Had L 6 (v 44 = .slice (some ⟨rb, 0, none⟩) (m + 2) (Cb))
 f7 : Had L 7 (v 45 = .int .i64 (i : Int))
 f8 : Had L 8 (v 46 = .pointer (some ⟨rb, i, none⟩))
 f9 : Had L 9 (v 47 = .slice (some ⟨G i, 0, none⟩) (wd) (C i))
 f10 : Had L 10 (v 48 = .pointer (some ⟨tb, 0, none⟩))
 f11 : Had L 11 (v 49 = .int .i64 (R : Int))
 f12 : Had L 12 (v 50 = .pointer (some ⟨G i, R, none⟩))
 f13 : Had L 13 (v 51 = .int .i64 va)
 f14 : Had L 14 (v 52 = .agg #[.int .i64 fx, .int .i64 fy])
 f15 : Had L 15 (v 53 = .pointer (some ⟨xb, c * 2, none⟩))

structure MltR (tb i qr N wd xb m : Nat) (G C : Nat → Nat) (e1 lk D va fx fy : Int) (Wc : World) (L : Nat → Bool) (v : Nat → Value) (W : World) : Prop where
 st : L 21 = false → Below Wc.heap.size Wc W
 s1 : Had L 21 (∃ W2, Below Wc.heap.size Wc W2 ∧ W = (W2.setCell ⟨xb, i * 2, none⟩ (.int .i64 fx)).setCell ⟨xb, i * 2 + 1, none⟩ (.int .i64 fy))
 w6 : Had L 6 (∀ j ∈ [5], L j = true)
 w7 : Had L 7 (∀ j ∈ [6], L j = true)
 w8 : Had L 8 (∀ j ∈ [7], L j = true)
 w9 : Had L 9 (∀ j ∈ [4, 8], L j = true)
 w12 : Had L 12 (∀ j ∈ [11], L j = true)
 w14 : Had L 14 (∀ j ∈ [12, 13], L j = true)
 w15 : Had L 15 (∀ j ∈ [10, 14], L j = true)
 w16 : Had L 16 (∀ j ∈ [15], L j = true)
 w17 : Had L 17 (∀ j ∈ [9, 16], L j = true)
 w18 : Had L 18 (∀ j ∈ [3, 17], L j = true)
 w19 : Had L 19 (∀ j ∈ [2, 18], L j = true)
 w20 : Had L 20 (∀ j ∈ [0, 1], L j = true)
 w21 : Had L 21 (∀ j ∈ [0, 1, 2, 3, 4, 5, 6, 7, 8, 9, 10, 11, 12, 13, 14, 15, 16, 17, 18, 19, 20], L j = true)
 f0 : Had L 0 (v 26 = .slice (some ⟨xb, 0, none⟩) (m) (m))
 f1 : Had L 1 (v 27 = .int .i64 (i : Int))
 f2 : Had L 2 (v 28 = .pointer (some ⟨tb, 0, none⟩))
 f3 : Had L 3 (v 29 = .int .i64 e1)
 f4 : Had L 4 (v 30 = .int .i64 lk)
 f5 : Had L 5 (v 31 = .pointer (some ⟨tb, 0, none⟩))
 f6 : Had L 6 (v 32 = .pointer (some ⟨tb, 0, none⟩))
 f7 : Had L 7 (v 33 = .pointer (some ⟨tb, 3, none⟩))
 f8 : Had L 8 (v 34 = .int .i64 D)
 f9 : Had L 9 (v 35 = .int .i64 (lk * D))
 f10 : Had L 10 (v 36 = .slice (some ⟨G qr, 0, none⟩) (wd) (C qr))
 f11 : Had L 11 (v 37 = .pointer (some ⟨tb, 0, none⟩))
 f12 : Had L 12 (v 38 = .int .i64 (N : Int))
 f13 : Had L 13 (v 39 = .int .i64 (i : Int))
 f14 : Had L 14 (v 40 = .int .i64 ((N + i : Nat) : Int))
 f15 : Had L 15 (v 41 = .pointer (some ⟨G qr, (N + i : Nat), none⟩))
 f16 : Had L 16 (v 42 = .int .i64 va)
 f17 : Had L 17 (v 43 = .int .i64 (lk * D - va))
 f18 : Had L 18 (v 44 = .int .i64 (e1 * (lk * D - va)))
 f19 : Had L 19 (v 45 = .agg #[.int .i64 fx, .int .i64 fy])
 f20 : Had L 20 (v 46 = .pointer (some ⟨xb, i * 2, none⟩))

set_option maxHeartbeats 2000000 in
theorem fraction_any (eb : Nat) (v0 v1 v2 v4 : Value) (D n a d er : Int) (w : World) (hE : TBlk w eb v0 v1 v2 (.int .i64 D) v4) (n0 : -9223372036854775808 ≤ n) (n1 : n ≤ 9223372036854775807) (d0 : -9223372036854775808 ≤ D) (d1 : D ≤ 9223372036854775807) (h : makeT n D = (a, d, er)) :
  Calls Tryz.prog 93 #[.pointer (some ⟨eb, 0, none⟩), .int .i64 n] w fun e w' => e = .returned (.agg #[.int .i64 a, .int .i64 d]) ∧ Below w.heap.size w w' := by
 have CM := fun W => Lib.hid (Make_any n D W n0 n1 d0 d1 a d er h)
 have q2 := hE.c3
 have hb := hE.hb
 clear hE
 go_enter Tryz.func93, Tryz.ntmps93
 have hb1 : Below w.heap.size w (w.alloc (Obj.cells #[Value.int IntKind.i64 0, Value.int IntKind.i64 0] 27)) := (Below.refl _ _).alloc (Nat.le_refl _) _
 obtain ⟨W1, hW1⟩ : ∃ W, W = w.alloc (Obj.cells #[Value.int IntKind.i64 0, Value.int IntKind.i64 0] 27) := ⟨_, rfl⟩
 obtain ⟨rb, hrb⟩ : ∃ x, x = w.heap.size := ⟨_, rfl⟩
 have B1 : Blk W1 rb (.int .i64 0) (.int .i64 0) := by rw [hW1, hrb]; exact Blk.new _ _ _ _
 have F1 : Frz W1 rb := by rw [hW1, hrb]; exact Frz.new _ _ _ _
 have e1 := (hb1.cell (p := ⟨eb, 3, none⟩) hb).trans q2
 have hl1 := Nat.lt_of_lt_of_le hb hb1.size
 go_upto_region 1 with fail
 rw [← hW1, ← hrb]
 rw [← hW1] at hb1 e1 hl1
 have HB1 := Lib.hid hb1
 have HR := Lib.hid (And.intro B1 F1)
 have HX := Lib.hid hrb
 clear hW1 hrb hb1 B1 F1 q2 hb
 go_wp2_with fail
 (with_reducible refine (((CM _).out).mono ?_))
 rintro e w2 ⟨rfl, hb2⟩
 have HB2 := Lib.hid (below_on HB1.out hb2)
 have HR2 := Lib.hid (And.intro (HR.out.1.on hb2) (HR.out.2.on HR.out.1.1 hb2))
 clear CM hb2 HR e1 hl1 HB1
 go_upto_region 2 with fail
 obtain ⟨W3, hW3⟩ : ∃ W, W = w2.alloc (Obj.cells #[Value.int IntKind.i64 a, Value.int IntKind.i64 d] 27) := ⟨_, rfl⟩
 have hb3 : Below w2.heap.size w2 (w2.alloc (Obj.cells #[Value.int IntKind.i64 a, Value.int IntKind.i64 d] 27)) := (Below.refl _ _).alloc (Nat.le_refl _) _
 have B3 := HR2.out.1.on hb3
 have F3 := HR2.out.2.on HR2.out.1.1 hb3
 have C3 : Blk (w2.alloc (Obj.cells #[Value.int IntKind.i64 a, Value.int IntKind.i64 d] 27)) w2.heap.size (.int .i64 a) (.int .i64 d) := Blk.new _ _ _ _
 rw [← hW3] at B3 F3 C3 hb3
 rw [← hW3]
 have HB3 := Lib.hid (below_on HB2.out hb3)
 clear hW3 hb3 HR2 HB2
 have B4 := Blk.set (x := .int .i64 a) (y := .int .i64 d) B3
 have HB4 := Lib.hid ((HB3.out.setCell (p := ⟨rb, 0, none⟩) (by show w.heap.size ≤ rb; rw [HX.out]; exact Nat.le_refl _) (.int .i64 a)).setCell (p := ⟨rb, 1, none⟩) (by show w.heap.size ≤ rb; rw [HX.out]; exact Nat.le_refl _) (.int .i64 d))
 have H4 := Lib.hid B4
 clear B4
 obtain ⟨_, b0, b1⟩ := B3
 obtain ⟨f0, f1⟩ := F3
 obtain ⟨_, c0, c1⟩ := C3
 go_wp2_with fail
 clear b0 b1 f0 f1 c0 c1
 generalize (W3.setCell ⟨rb, 0, none⟩ (.int .i64 a)).setCell ⟨rb, 1, none⟩ (.int .i64 d) = W4 at *
 have x0 := H4.out.2.1
 have x1 := H4.out.2.2
 (try simp only [Exit.inBlock, Exit.then])
 refine bodyPost_ret (by simp [results, Tryz.results93, x0, x1, go_sem]; rfl) rfl ?_
 exact ⟨rfl, HB4.out⟩


section
variable {B0 : Nat} {W W2 : World} {tb rb Cb bb sb m n wd : Nat} {pa pb : Option Addr} {pc pd : Nat} {G C : Nat → Nat} {E : Nat → Nat → Int} {β : Nat → Int} {sg : Nat → Int} {D : Int}
set_option maxHeartbeats 2000000 in
theorem value_any (w : World) (h : TSt B0 w tb rb Cb bb sb m n wd pa pb pc pd G C E β sg D) (hwd : wd = n + m + m + 1) (hm : m ≤ 1000) (hn : n ≤ 1000) (hD : -4611686018427387904 ≤ D ∧ D ≤ 4611686018427387904) (hE : -4611686018427387904 ≤ E m (n + m + m) ∧ E m (n + m + m) ≤ 4611686018427387904) :
  Calls Tryz.prog 52 #[.pointer (some ⟨tb, 0, none⟩)] w fun e w' => e = .returned (.agg #[.int .i64 (shF (-(E m (n + m + m))) D).1, .int .i64 (shF (-(E m (n + m + m))) D).2]) ∧ Below w.heap.size w w' := by
 obtain ⟨x, hx⟩ : ∃ x, E m (n + m + m) = x := ⟨_, rfl⟩
 have p1 := fun W (hb : Below w.heap.size w W) => (h.on hb).g.cell m (n + m + m) (by omega) (by omega)
 rw [hx] at p1 hE
 rw [hx]
 obtain ⟨fx, hfx⟩ : ∃ y, (shF (-x) D).1 = y := ⟨_, rfl⟩
 obtain ⟨fy, hfy⟩ : ∃ y, (shF (-x) D).2 = y := ⟨_, rfl⟩
 have hmk := shF_eq (-x) D
 rw [hfx, hfy] at hmk
 rw [hfx, hfy]
 have HP1 := Lib.hid p1
 have CC := fun W (hb : Below w.heap.size w W) => Lib.hid (costs_any W (h.on hb) hm)
 have CR := fun W (hb : Below w.heap.size w W) => Lib.hid (right_any W (h.on hb) hm hn)
 have CF := fun W (hb : Below w.heap.size w W) => Lib.hid (fraction_any tb _ _ _ _ D (-x) fx fy _ W (h.on hb).t (by omega) (by omega) (by omega) (by omega) hmk)
 have HCC := Lib.hid CC
 have HCR := Lib.hid CR
 have HCF := Lib.hid CF
 have wx : IntKind.i64.wrap (-x) = -x := IntWalk.i64_in _ (by omega)
 have l1 : ((n + m + m : Nat) : Int) < (wd : Int) := by omega
 have l2 : (n : Int) + (m : Int) + (m : Int) < (wd : Int) := by omega
 clear CC CR CF p1 h hmk hx hfx hfy hwd
 go_enter Tryz.func52, Tryz.ntmps52
 go_upto_region 1 with fail
 obtain ⟨W1, hW1⟩ : ∃ W, W = w.alloc (Obj.cells #[Value.int IntKind.i64 0, Value.int IntKind.i64 0] 27) := ⟨_, rfl⟩
 obtain ⟨rb, hrb⟩ : ∃ x, x = w.heap.size := ⟨_, rfl⟩
 have hb1 : Below w.heap.size w W1 := by rw [hW1]; exact (Below.refl _ _).alloc (Nat.le_refl _) _
 have B1 : Blk W1 rb (.int .i64 0) (.int .i64 0) := by rw [hW1, hrb]; exact Blk.new _ _ _ _
 have F1 : Frz W1 rb := by rw [hW1, hrb]; exact Frz.new _ _ _ _
 rw [← hW1, ← hrb]
 have HB1 := Lib.hid hb1
 have HR := Lib.hid (And.intro B1 F1)
 have HX := Lib.hid hrb
 clear hW1 hrb hb1 B1 F1
 go_wp2_with (first | (go_at_call 51; (with_reducible refine (((HCC.out _ HB1.out).out).mono ?_)); rintro e w1 ⟨rfl, k1, rfl⟩))
 have HB2 := Lib.hid (below_drewN' HB1.out k1)
 have HR2 := Lib.hid (And.intro (HR.out.1.on (below_drewN' (Below.refl _ _) k1)) (HR.out.2.on HR.out.1.1 (below_drewN' (Below.refl _ _) k1)))
 generalize W1.drewN k1 = W2 at *
 clear HB1 HR
 (with_reducible refine (((HCR.out _ HB2.out).out).mono ?_))
 rintro e w1 ⟨rfl, k2, rfl⟩
 have HB3 := Lib.hid (below_drewN' HB2.out k2)
 have HR3 := Lib.hid (And.intro (HR2.out.1.on (below_drewN' (Below.refl _ _) k2)) (HR2.out.2.on HR2.out.1.1 (below_drewN' (Below.refl _ _) k2)))
 generalize W2.drewN k2 = W3 at *
 clear HB2 HR2
 have p1 := HP1.out _ HB3.out
 go_wp2_with fail
 (with_reducible refine (((HCF.out _ HB3.out).out).mono ?_))
 rintro e w4 ⟨rfl, hb4⟩
 have HB4 := Lib.hid (below_on HB3.out hb4)
 have HR4 := Lib.hid (And.intro (HR3.out.1.on hb4) (HR3.out.2.on HR3.out.1.1 hb4))
 clear HB3 HR3 hb4 p1
 obtain ⟨_, b0, b1⟩ := HR4.out.1
 obtain ⟨f0, f1⟩ := HR4.out.2
 have B5 := Blk.set (x := .int .i64 fx) (y := .int .i64 fy) HR4.out.1
 have HB5 := Lib.hid ((HB4.out.setCell (p := ⟨rb, 0, none⟩) (by show w.heap.size ≤ rb; rw [HX.out]; exact Nat.le_refl _) (.int .i64 fx)).setCell (p := ⟨rb, 1, none⟩) (by show w.heap.size ≤ rb; rw [HX.out]; exact Nat.le_refl _) (.int .i64 fy))
 have H5 := Lib.hid B5
 clear B5
 go_wp2_with fail
 clear b0 b1 f0 f1
 generalize (w4.setCell ⟨rb, 0, none⟩ (.int .i64 fx)).setCell ⟨rb, 1, none⟩ (.int .i64 fy) = W5 at *
 have x0 := H5.out.2.1
 have x1 := H5.out.2.2
 (try simp only [Exit.inBlock, Exit.then])
 refine bodyPost_ret (by simp [results, Tryz.results52, x0, x1, go_sem]; rfl) rfl ?_
 exact ⟨rfl, HB5.out⟩


set_option maxHeartbeats 1000000 in
theorem whole_any (z : Int) (w : World) : Calls Tryz.prog 94 #[.int .i64 z] w fun e w' => e = .returned (.agg #[.int .i64 z, .int .i64 1]) ∧ Below w.heap.size w w' := by
 go_enter Tryz.func94, Tryz.ntmps94
 go_wp2
 all_goals
  refine bodyPost_ret (by simp [results, Tryz.results94, go_sem]; rfl) rfl ?_
  exact ⟨rfl, by go_grown⟩

/-- The point while the rows before i have been read. -/
def pntF (n : Nat) (E : Nat → Nat → Int) (b : Nat → Nat) (R : Nat) (D : Int) : Nat → Nat → Int × Int
 | 0 => fun _ => (0, 1)
 | i + 1 => if b i < n then updF (pntF n E b R D i) (b i) (shF (E i R) D) else pntF n E b R D i
theorem FrX.made0 {W : World} {g n : Nat} {base : Nat} {t : TypeId} (ho : W.ownsRow base t 2 (.slice (some ⟨g, 0, none⟩) n n) n (madeCells (Value.agg #[.int .i64 0, .int .i64 0]).cells (n * 2)).toList) : FrX W g n (fun _ => (0, 0)) := by
 by_cases hn : 0 < n
 ·exact FrX.made ho hn
 ·exact ⟨(ho.lt g rfl).2, fun l hl => by omega, fun l hl => by omega, fun l hl => by omega, fun l hl => by omega⟩

set_option maxRecDepth 100000 in
set_option maxHeartbeats 16000000 in
theorem point_any (b : Nat → Nat) (w : World) (h : TSt B0 w tb rb Cb bb sb m n wd pa pb pc pd G C E (fun i => (b i : Int)) sg D) (hwd : wd = n + m + m + 1) (hm : m ≤ 1000) (hn : n ≤ 1000) (hD : -4611686018427387904 ≤ D ∧ D ≤ 4611686018427387904) (hE : ∀ i, i < m → -4611686018427387904 ≤ E i (n + m + m) ∧ E i (n + m + m) ≤ 4611686018427387904) :
  Calls Tryz.prog 53 #[.pointer (some ⟨tb, 0, none⟩)] w fun e w' => ∃ xb, e = .returned (.slice (some ⟨xb, 0, none⟩) n n) ∧ w.heap.size ≤ xb ∧ Below w.heap.size w w' ∧ FrX w' xb n (pntF n E b (n + m + m) D m) := by
 have HH := Lib.hid h
 have HE := Lib.hid hE
 have HD := Lib.hid hD
 obtain ⟨R, hR⟩ : ∃ R, R = n + m + m := ⟨_, rfl⟩
 have CR0 := fun W (hb : Below w.heap.size w W) => Lib.hid ((right_any W (h.on hb) hm hn).mono (R' := fun e w' => e = .returned (.int .i64 ((n + m + m : Nat) : Int)) ∧ Below W.heap.size W w') (fun e w' q => ⟨q.1, by obtain ⟨k, hk⟩ := q.2; rw [hk]; exact below_drewN' (Below.refl _ _) k⟩))
 rw [← hR] at CR0
 have HCR := Lib.hid CR0
 have HRD := Lib.hid (show R < wd by omega)
 rw [← hR] at HE
 rw [← hR]
 have q4 := h.t.c4
 clear CR0 h hE hD hR hwd
 obtain ⟨i0, hi0, hz0, hz1, hz2⟩ := info_parts (show (Tryz.prog.info? 27).map (fun i => (i.zero, i.size, i.bytes)) = some (some (Value.agg #[Value.int IntKind.i64 0, Value.int IntKind.i64 0]), 2, 16) by kernel_rfl)
 go_enter Tryz.func53, Tryz.ntmps53
 go_upto_region 2 with (refine wpList_make_full _ rfl _ _ 28 rfl w.heap.size 27 i0 (Value.agg #[Value.int IntKind.i64 0, Value.int IntKind.i64 0]) 2 Tryz.underlying28 hi0 hz0 hz1 _ _ _ _ n rfl rfl rfl rfl (by rw [hz2]; omega) (by unfold maxLen; omega) (Nat.le_refl _) ?_; intro w1 ho hg)
 have hb6 : Below w.heap.size w w1 := ⟨hg.os, hg.tape, hg.output, hg.size, fun k hk => hg.block k hk (by simp)⟩
 obtain ⟨xb, hxb⟩ : ∃ x, x = w.heap.size := ⟨_, rfl⟩
 have F0 := FrX.made0 ho
 rw [← hxb] at F0
 rw [← hxb]
 have S0 : Hid (FrX w1 xb n (fun l => if l < 0 then (0, 1) else (0, 0)) ∧ Below w.heap.size w w1) := ⟨F0.congr fun l _ => if_neg (by omega), hb6⟩
 have HXB := Lib.hid hxb
 clear q4 ho hg hb6 F0 hxb hi0 hz0 hz1 hz2 i0
 go_wp2_with fail
 go_loopg [14] n (fun g s14 wx => ∃ i : Nat, s14 = .int .i64 i ∧ g = n - i ∧ i ≤ n ∧ Hid (FrX wx xb n (fun l => if l < i then (0, 1) else (0, 0)) ∧ Below w.heap.size w wx))
 case atStart => exact ⟨0, rfl, rfl, Nat.zero_le _, S0⟩
 case round =>
  clear S0
  obtain ⟨i, rfl, rfl, hi, S⟩ := hrel
  rename World => W6
  by_cases hlt : i < n
  ·have wk : IntKind.i64.wrap ((i : Int) + 1) = ((i + 1 : Nat) : Int) := by rw [IntWalk.i64_in _ (by omega)]; omega
   have CW := Lib.hid (whole_any 0 W6)
   go_wp2_with fail
   (with_reducible refine ((CW.out).mono ?_))
   rintro e w7 ⟨rfl, hb7⟩
   have S7 := Lib.hid (And.intro (S.out.1.on hb7) (below_on S.out.2 hb7))
   clear S hb7 CW
   have x0 := S7.out.1.c0 i hlt
   have x1 := S7.out.1.c1 i hlt
   have y0 := S7.out.1.f0 i hlt
   have y1 := S7.out.1.f1 i hlt
   go_wp2_with fail
   have T : Hid (FrX ((w7.setCell ⟨xb, i * 2, none⟩ (.int .i64 0)).setCell ⟨xb, i * 2 + 1, none⟩ (.int .i64 1)) xb n (fun l => if l < i + 1 then (0, 1) else (0, 0)) ∧ Below w.heap.size w ((w7.setCell ⟨xb, i * 2, none⟩ (.int .i64 0)).setCell ⟨xb, i * 2 + 1, none⟩ (.int .i64 1))) :=
    ⟨(S7.out.1.set i hlt 0 1).congr fun l hl => by
     unfold updF
     by_cases e : l = i
     ·subst e; rw [if_pos (by omega), if_pos rfl]
     ·rw [if_neg e]
      show _ = if l < i then ((0 : Int), (1 : Int)) else (0, 0)
      by_cases g : l < i
      ·rw [if_pos g, if_pos (by omega)]
      ·rw [if_neg g, if_neg (by omega)], (S7.out.2.setCell (by show w.heap.size ≤ xb; rw [HXB.out]; exact Nat.le_refl _) _).setCell (by show w.heap.size ≤ xb; rw [HXB.out]; exact Nat.le_refl _) _⟩
   clear x0 x1 y0 y1 S7
   go_roundg (n - (i + 1))
   case measure => omega
   case rel => exact ⟨i + 1, rfl, rfl, by omega, T⟩
  ·have e : n = i := by omega
   subst e
   have S1 : Hid (FrX W6 xb n (pntF n E b R D 0) ∧ Below w.heap.size w W6) := ⟨S.out.1.congr fun l hl => (if_pos hl).symm, S.out.2⟩
   have r1 := (HH.out.on S.out.2).t.c1
   clear S
   go_wp2_with fail
   clear r1
   go_loopg [27] m (fun g s27 wx => ∃ j : Nat, s27 = .int .i64 j ∧ g = m - j ∧ j ≤ m ∧ Hid (FrX wx xb n (pntF n E b R D j) ∧ Below w.heap.size w wx))
   case atStart => exact ⟨0, rfl, rfl, Nat.zero_le _, S1⟩
   case round =>
    clear S1
    obtain ⟨i, rfl, rfl, hi, S⟩ := hrel
    rename World => W3
    by_cases hlti : i < m
    ·have wki : IntKind.i64.wrap ((i : Int) + 1) = ((i + 1 : Nat) : Int) := by rw [IntWalk.i64_in _ (by omega)]; omega
     have H3 := Lib.hid (HH.out.on S.out.2)
     have r4 := H3.out.t.c4
     have cb := H3.out.ba.cell i hlti
     have ed := H3.out.ba.ad (by omega)
     rw [ed]
     obtain ⟨c, hc⟩ : ∃ c, b i = c := ⟨_, rfl⟩
     rw [hc] at cb
     have es : pntF n E b R D (i + 1) = if c < n then updF (pntF n E b R D i) c (shF (E i R) D) else pntF n E b R D i := by rw [← hc]; rfl
     have HES := Lib.hid es
     clear es hc
     by_cases hcn : c < n
     ·have d1 : decide ((c : Int) < (n : Int)) = true := decide_eq_true (by omega)
      have hE1 := HE.out i hlti
      have hD1 := HD.out
      obtain ⟨fx, hfx⟩ : ∃ y, (shF (E i R) D).1 = y := ⟨_, rfl⟩
      obtain ⟨fy, hfy⟩ : ∃ y, (shF (E i R) D).2 = y := ⟨_, rfl⟩
      have hmk := shF_eq (E i R) D
      rw [hfx, hfy] at hmk
      have HSF := Lib.hid (show shF (E i R) D = (fx, fy) by rw [← hfx, ← hfy])
      have L0 : Hid (W3.cell? ⟨tb, 0, none⟩ = some (.slice (some ⟨rb, 0, none⟩) (m + 2) (Cb)) ∧ tb < W3.heap.size) := ⟨H3.out.t.c0, H3.out.t.hb⟩
      have LI : Hid (W3.cell? ⟨rb, i, none⟩ = some (.slice (some ⟨G i, 0, none⟩) (wd) (C i)) ∧ rb < W3.heap.size) := ⟨H3.out.g.top i (by omega), H3.out.g.hb⟩
      have LA : Hid (W3.cell? ⟨G i, R, none⟩ = some (.int .i64 (E i R)) ∧ G i < W3.heap.size) := ⟨H3.out.g.cell i R (by omega) HRD.out, (H3.out.g.row i (by omega)).2.1⟩
      have LX : Hid (W3.cell? ⟨xb, c * 2, none⟩ = some (.int .i64 (pntF n E b R D i c).1) ∧ W3.cell? ⟨xb, c * 2 + 1, none⟩ = some (.int .i64 (pntF n E b R D i c).2) ∧ xb < W3.heap.size) := ⟨S.out.1.c0 c hcn, S.out.1.c1 c hcn, S.out.1.hb⟩
      have LF : Hid (W3.frozen? ⟨xb, c * 2, none⟩ = false ∧ W3.frozen? ⟨xb, c * 2 + 1, none⟩ = false) := ⟨S.out.1.f0 c hcn, S.out.1.f1 c hcn⟩
      have CR := fun W (hb : Below W3.heap.size W3 W) => HCR.out W (below_on S.out.2 hb)
      obtain ⟨va, hva⟩ : ∃ x, E i R = x := ⟨_, rfl⟩
      rw [hva] at LA hmk hE1
      have CF := fun W (hb : Below W3.heap.size W3 W) => Lib.hid (fraction_any tb _ _ _ _ D va fx fy _ W (H3.out.on hb).t (by omega) (by omega) (by omega) (by omega) hmk)
      have HVA := Lib.hid hva
      clear hva hmk hfx hfy hE1 hD1
      have l1 : (i : Int) < ((m + 2 : Nat) : Int) := by omega
      have l2 : (i : Int) < (m : Int) + 2 := by omega
      have l3 := HRD.out
      go_upto_region 11 with fail
      clear r4 cb
      refine wp_region_each (fun L A W => ∃ (v : Nat → Value), A = ⟨#[_, _, _, _, _, _, _, _, _, _, _, _, _, _, _, _, _, _, _, _, _, _, _, _, _, _, _, _, _, _, _, _, _, _, _, _, _, _, v 38, v 39, v 40, v 41, v 42, v 43, v 44, v 45, v 46, v 47, v 48, v 49, v 50, v 51, v 52, v 53, _, _], []⟩ ∧ PntR tb rb Cb m n i c R wd xb G C va fx fy W3 L v W) (by kernel_rfl) (by kernel_rfl) ⟨fun jz => if jz = 38 then u38 else if jz = 39 then u39 else if jz = 40 then u40 else if jz = 41 then u41 else if jz = 42 then u42 else if jz = 43 then u43 else if jz = 44 then u44 else if jz = 45 then u45 else if jz = 46 then u46 else if jz = 47 then u47 else if jz = 48 then u48 else if jz = 49 then u49 else if jz = 50 then u50 else if jz = 51 then u51 else if jz = 52 then u52 else if jz = 53 then u53 else undef, rfl, ⟨(fun _ => Below.drew (Below.refl _ _)), Had.none, Had.none, Had.none, Had.none, Had.none, Had.none, Had.none, Had.none, Had.none, Had.none, Had.none, Had.none, Had.none, Had.none, Had.none, Had.none, Had.none, Had.none, Had.none, Had.none, Had.none, Had.none, Had.none, Had.none, Had.none, Had.none, Had.none, Had.none⟩⟩ (rs := [0, 1, 2, 3, 4, 5, 6, 7, 8, 9, 10, 11, 12, 13, 14, 15, 16]) (by kernel_rfl) ?_ ?_
      ·refine EachOf.cons [] rfl (by kernel_rfl) ?_ ?_
       ·rintro L A W ⟨v, rfl, hR⟩ hi hw K hK
        have hk : L 16 = false := hR.w16.not hi rfl
        go_simp
        refine hK.out _ _ ?_
        exact ⟨(fun jz => if jz = 38 then .slice (some ⟨xb, 0, none⟩) (n) (n) else v jz), rfl, ⟨(fun h => hR.st (upd_false h)), hR.s1.k, hR.w4.o, hR.w5.o, hR.w6.o, hR.w8.o, hR.w9.o, hR.w11.o, hR.w12.o, hR.w13.o, hR.w14.o, hR.w15.o, hR.w16.o, (fun _ => rfl), hR.f1.k, hR.f2.k, hR.f3.k, hR.f4.k, hR.f5.k, hR.f6.k, hR.f7.k, hR.f8.k, hR.f9.k, hR.f10.k, hR.f11.k, hR.f12.k, hR.f13.k, hR.f14.k, hR.f15.k⟩⟩
       refine EachOf.cons [] rfl (by kernel_rfl) ?_ ?_
       ·rintro L A W ⟨v, rfl, hR⟩ hi hw K hK
        have hk : L 16 = false := hR.w16.not hi rfl
        go_simp
        refine hK.out _ _ ?_
        exact ⟨(fun jz => if jz = 39 then .int .i64 (c : Int) else v jz), rfl, ⟨(fun h => hR.st (upd_false h)), hR.s1.k, hR.w4.o, hR.w5.o, hR.w6.o, hR.w8.o, hR.w9.o, hR.w11.o, hR.w12.o, hR.w13.o, hR.w14.o, hR.w15.o, hR.w16.o, hR.f0.k, (fun _ => rfl), hR.f2.k, hR.f3.k, hR.f4.k, hR.f5.k, hR.f6.k, hR.f7.k, hR.f8.k, hR.f9.k, hR.f10.k, hR.f11.k, hR.f12.k, hR.f13.k, hR.f14.k, hR.f15.k⟩⟩
       refine EachOf.cons [] rfl (by kernel_rfl) ?_ ?_
       ·rintro L A W ⟨v, rfl, hR⟩ hi hw K hK
        have hk : L 16 = false := hR.w16.not hi rfl
        go_simp
        refine hK.out _ _ ?_
        exact ⟨(fun jz => if jz = 40 then .pointer (some ⟨tb, 0, none⟩) else v jz), rfl, ⟨(fun h => hR.st (upd_false h)), hR.s1.k, hR.w4.o, hR.w5.o, hR.w6.o, hR.w8.o, hR.w9.o, hR.w11.o, hR.w12.o, hR.w13.o, hR.w14.o, hR.w15.o, hR.w16.o, hR.f0.k, hR.f1.k, (fun _ => rfl), hR.f3.k, hR.f4.k, hR.f5.k, hR.f6.k, hR.f7.k, hR.f8.k, hR.f9.k, hR.f10.k, hR.f11.k, hR.f12.k, hR.f13.k, hR.f14.k, hR.f15.k⟩⟩
       refine EachOf.cons [] rfl (by kernel_rfl) ?_ ?_
       ·rintro L A W ⟨v, rfl, hR⟩ hi hw K hK
        have hk : L 16 = false := hR.w16.not hi rfl
        go_simp
        refine hK.out _ _ ?_
        exact ⟨(fun jz => if jz = 41 then .pointer (some ⟨tb, 0, none⟩) else v jz), rfl, ⟨(fun h => hR.st (upd_false h)), hR.s1.k, hR.w4.o, hR.w5.o, hR.w6.o, hR.w8.o, hR.w9.o, hR.w11.o, hR.w12.o, hR.w13.o, hR.w14.o, hR.w15.o, hR.w16.o, hR.f0.k, hR.f1.k, hR.f2.k, (fun _ => rfl), hR.f4.k, hR.f5.k, hR.f6.k, hR.f7.k, hR.f8.k, hR.f9.k, hR.f10.k, hR.f11.k, hR.f12.k, hR.f13.k, hR.f14.k, hR.f15.k⟩⟩
       refine EachOf.cons [3] rfl (by kernel_rfl) ?_ ?_
       ·rintro L A W ⟨v, rfl, hR⟩ hi hw K hK
        have hk : L 16 = false := hR.w16.not hi rfl
        have e3 := hR.f3 (hw 3 (by simp))
        simp only [e3]
        clear e3
        go_simp
        refine hK.out _ _ ?_
        exact ⟨(fun jz => if jz = 41 then .pointer (some ⟨tb, 0, none⟩) else if jz = 42 then .pointer (some ⟨tb, 0, none⟩) else v jz), rfl, ⟨(fun h => hR.st (upd_false h)), hR.s1.k, (fun _ j hj => upd_on (hw j hj)), hR.w5.o, hR.w6.o, hR.w8.o, hR.w9.o, hR.w11.o, hR.w12.o, hR.w13.o, hR.w14.o, hR.w15.o, hR.w16.o, hR.f0.k, hR.f1.k, hR.f2.k, (fun _ => rfl), (fun _ => rfl), hR.f5.k, hR.f6.k, hR.f7.k, hR.f8.k, hR.f9.k, hR.f10.k, hR.f11.k, hR.f12.k, hR.f13.k, hR.f14.k, hR.f15.k⟩⟩
       refine EachOf.cons [4] rfl (by kernel_rfl) ?_ ?_
       ·rintro L A W ⟨v, rfl, hR⟩ hi hw K hK
        have hk : L 16 = false := hR.w16.not hi rfl
        have e4 := hR.f4 (hw 4 (by simp))
        simp only [e4]
        clear e4
        go_simp
        refine hK.out _ _ ?_
        exact ⟨(fun jz => if jz = 42 then .pointer (some ⟨tb, 0, none⟩) else if jz = 43 then .pointer (some ⟨tb, 0, none⟩) else v jz), rfl, ⟨(fun h => hR.st (upd_false h)), hR.s1.k, hR.w4.o, (fun _ j hj => upd_on (hw j hj)), hR.w6.o, hR.w8.o, hR.w9.o, hR.w11.o, hR.w12.o, hR.w13.o, hR.w14.o, hR.w15.o, hR.w16.o, hR.f0.k, hR.f1.k, hR.f2.k, hR.f3.k, (fun _ => rfl), (fun _ => rfl), hR.f6.k, hR.f7.k, hR.f8.k, hR.f9.k, hR.f10.k, hR.f11.k, hR.f12.k, hR.f13.k, hR.f14.k, hR.f15.k⟩⟩
       refine EachOf.cons [5] rfl (by kernel_rfl) ?_ ?_
       ·rintro L A W ⟨v, rfl, hR⟩ hi hw K hK
        have hk : L 16 = false := hR.w16.not hi rfl
        have e5 := hR.f5 (hw 5 (by simp))
        simp only [e5]
        clear e5
        have q0 := ((hR.st hk).cell (p := ⟨tb, 0, none⟩) L0.out.2).trans L0.out.1
        go_simp
        refine hK.out _ _ ?_
        exact ⟨(fun jz => if jz = 43 then .pointer (some ⟨tb, 0, none⟩) else if jz = 44 then .slice (some ⟨rb, 0, none⟩) (m + 2) (Cb) else v jz), rfl, ⟨(fun h => hR.st (upd_false h)), hR.s1.k, hR.w4.o, hR.w5.o, (fun _ j hj => upd_on (hw j hj)), hR.w8.o, hR.w9.o, hR.w11.o, hR.w12.o, hR.w13.o, hR.w14.o, hR.w15.o, hR.w16.o, hR.f0.k, hR.f1.k, hR.f2.k, hR.f3.k, hR.f4.k, (fun _ => rfl), (fun _ => rfl), hR.f7.k, hR.f8.k, hR.f9.k, hR.f10.k, hR.f11.k, hR.f12.k, hR.f13.k, hR.f14.k, hR.f15.k⟩⟩
       refine EachOf.cons [] rfl (by kernel_rfl) ?_ ?_
       ·rintro L A W ⟨v, rfl, hR⟩ hi hw K hK
        have hk : L 16 = false := hR.w16.not hi rfl
        go_simp
        refine hK.out _ _ ?_
        exact ⟨(fun jz => if jz = 45 then .int .i64 (i : Int) else v jz), rfl, ⟨(fun h => hR.st (upd_false h)), hR.s1.k, hR.w4.o, hR.w5.o, hR.w6.o, hR.w8.o, hR.w9.o, hR.w11.o, hR.w12.o, hR.w13.o, hR.w14.o, hR.w15.o, hR.w16.o, hR.f0.k, hR.f1.k, hR.f2.k, hR.f3.k, hR.f4.k, hR.f5.k, hR.f6.k, (fun _ => rfl), hR.f8.k, hR.f9.k, hR.f10.k, hR.f11.k, hR.f12.k, hR.f13.k, hR.f14.k, hR.f15.k⟩⟩
       refine EachOf.cons [6, 7] rfl (by kernel_rfl) ?_ ?_
       ·rintro L A W ⟨v, rfl, hR⟩ hi hw K hK
        have hk : L 16 = false := hR.w16.not hi rfl
        have e6 := hR.f6 (hw 6 (by simp))
        have e7 := hR.f7 (hw 7 (by simp))
        simp only [e6, e7]
        clear e6 e7
        go_simp
        refine hK.out _ _ ?_
        exact ⟨(fun jz => if jz = 44 then .slice (some ⟨rb, 0, none⟩) (m + 2) (Cb) else if jz = 45 then .int .i64 (i : Int) else if jz = 46 then .pointer (some ⟨rb, i, none⟩) else v jz), rfl, ⟨(fun h => hR.st (upd_false h)), hR.s1.k, hR.w4.o, hR.w5.o, hR.w6.o, (fun _ j hj => upd_on (hw j hj)), hR.w9.o, hR.w11.o, hR.w12.o, hR.w13.o, hR.w14.o, hR.w15.o, hR.w16.o, hR.f0.k, hR.f1.k, hR.f2.k, hR.f3.k, hR.f4.k, hR.f5.k, (fun _ => rfl), (fun _ => rfl), (fun _ => rfl), hR.f9.k, hR.f10.k, hR.f11.k, hR.f12.k, hR.f13.k, hR.f14.k, hR.f15.k⟩⟩
       refine EachOf.cons [8] rfl (by kernel_rfl) ?_ ?_
       ·rintro L A W ⟨v, rfl, hR⟩ hi hw K hK
        have hk : L 16 = false := hR.w16.not hi rfl
        have e8 := hR.f8 (hw 8 (by simp))
        simp only [e8]
        clear e8
        have q0 := ((hR.st hk).cell (p := ⟨rb, i, none⟩) LI.out.2).trans LI.out.1
        go_simp
        refine hK.out _ _ ?_
        exact ⟨(fun jz => if jz = 46 then .pointer (some ⟨rb, i, none⟩) else if jz = 47 then .slice (some ⟨G i, 0, none⟩) (wd) (C i) else v jz), rfl, ⟨(fun h => hR.st (upd_false h)), hR.s1.k, hR.w4.o, hR.w5.o, hR.w6.o, hR.w8.o, (fun _ j hj => upd_on (hw j hj)), hR.w11.o, hR.w12.o, hR.w13.o, hR.w14.o, hR.w15.o, hR.w16.o, hR.f0.k, hR.f1.k, hR.f2.k, hR.f3.k, hR.f4.k, hR.f5.k, hR.f6.k, hR.f7.k, (fun _ => rfl), (fun _ => rfl), hR.f10.k, hR.f11.k, hR.f12.k, hR.f13.k, hR.f14.k, hR.f15.k⟩⟩
       refine EachOf.cons [] rfl (by kernel_rfl) ?_ ?_
       ·rintro L A W ⟨v, rfl, hR⟩ hi hw K hK
        have hk : L 16 = false := hR.w16.not hi rfl
        go_simp
        refine hK.out _ _ ?_
        exact ⟨(fun jz => if jz = 48 then .pointer (some ⟨tb, 0, none⟩) else v jz), rfl, ⟨(fun h => hR.st (upd_false h)), hR.s1.k, hR.w4.o, hR.w5.o, hR.w6.o, hR.w8.o, hR.w9.o, hR.w11.o, hR.w12.o, hR.w13.o, hR.w14.o, hR.w15.o, hR.w16.o, hR.f0.k, hR.f1.k, hR.f2.k, hR.f3.k, hR.f4.k, hR.f5.k, hR.f6.k, hR.f7.k, hR.f8.k, hR.f9.k, (fun _ => rfl), hR.f11.k, hR.f12.k, hR.f13.k, hR.f14.k, hR.f15.k⟩⟩
       refine EachOf.cons [10] rfl (by kernel_rfl) ?_ ?_
       ·rintro L A W ⟨v, rfl, hR⟩ hi hw K hK
        have hk : L 16 = false := hR.w16.not hi rfl
        have e10 := hR.f10 (hw 10 (by simp))
        simp only [e10]
        clear e10
        have CR1 := fun (_ : World) => CR W (hR.st hk)
        go_simp
        go_at_call 86
        (with_reducible refine ((CR1 W).out).mono ?_)
        rintro e w2 ⟨rfl, hb⟩
        go_simp
        refine hK.out _ _ ?_
        exact ⟨(fun jz => if jz = 48 then .pointer (some ⟨tb, 0, none⟩) else if jz = 49 then .int .i64 (R : Int) else v jz), rfl, ⟨(fun _ => below_on (hR.st hk) hb), (fun h => absurd (upd_back h rfl) (by simp [hk])), hR.w4.o, hR.w5.o, hR.w6.o, hR.w8.o, hR.w9.o, (fun _ j hj => upd_on (hw j hj)), hR.w12.o, hR.w13.o, hR.w14.o, hR.w15.o, hR.w16.o, hR.f0.k, hR.f1.k, hR.f2.k, hR.f3.k, hR.f4.k, hR.f5.k, hR.f6.k, hR.f7.k, hR.f8.k, hR.f9.k, (fun _ => rfl), (fun _ => rfl), hR.f12.k, hR.f13.k, hR.f14.k, hR.f15.k⟩⟩
       refine EachOf.cons [9, 11] rfl (by kernel_rfl) ?_ ?_
       ·rintro L A W ⟨v, rfl, hR⟩ hi hw K hK
        have hk : L 16 = false := hR.w16.not hi rfl
        have e9 := hR.f9 (hw 9 (by simp))
        have e11 := hR.f11 (hw 11 (by simp))
        simp only [e9, e11]
        clear e9 e11
        go_simp
        refine hK.out _ _ ?_
        exact ⟨(fun jz => if jz = 47 then .slice (some ⟨G i, 0, none⟩) (wd) (C i) else if jz = 49 then .int .i64 (R : Int) else if jz = 50 then .pointer (some ⟨G i, R, none⟩) else v jz), rfl, ⟨(fun h => hR.st (upd_false h)), hR.s1.k, hR.w4.o, hR.w5.o, hR.w6.o, hR.w8.o, hR.w9.o, hR.w11.o, (fun _ j hj => upd_on (hw j hj)), hR.w13.o, hR.w14.o, hR.w15.o, hR.w16.o, hR.f0.k, hR.f1.k, hR.f2.k, hR.f3.k, hR.f4.k, hR.f5.k, hR.f6.k, hR.f7.k, hR.f8.k, (fun _ => rfl), hR.f10.k, (fun _ => rfl), (fun _ => rfl), hR.f13.k, hR.f14.k, hR.f15.k⟩⟩
       refine EachOf.cons [12] rfl (by kernel_rfl) ?_ ?_
       ·rintro L A W ⟨v, rfl, hR⟩ hi hw K hK
        have hk : L 16 = false := hR.w16.not hi rfl
        have e12 := hR.f12 (hw 12 (by simp))
        simp only [e12]
        clear e12
        have q0 := ((hR.st hk).cell (p := ⟨G i, R, none⟩) LA.out.2).trans LA.out.1
        go_simp
        refine hK.out _ _ ?_
        exact ⟨(fun jz => if jz = 50 then .pointer (some ⟨G i, R, none⟩) else if jz = 51 then .int .i64 va else v jz), rfl, ⟨(fun h => hR.st (upd_false h)), hR.s1.k, hR.w4.o, hR.w5.o, hR.w6.o, hR.w8.o, hR.w9.o, hR.w11.o, hR.w12.o, (fun _ j hj => upd_on (hw j hj)), hR.w14.o, hR.w15.o, hR.w16.o, hR.f0.k, hR.f1.k, hR.f2.k, hR.f3.k, hR.f4.k, hR.f5.k, hR.f6.k, hR.f7.k, hR.f8.k, hR.f9.k, hR.f10.k, hR.f11.k, (fun _ => rfl), (fun _ => rfl), hR.f14.k, hR.f15.k⟩⟩
       refine EachOf.cons [2, 13] rfl (by kernel_rfl) ?_ ?_
       ·rintro L A W ⟨v, rfl, hR⟩ hi hw K hK
        have hk : L 16 = false := hR.w16.not hi rfl
        have e2 := hR.f2 (hw 2 (by simp))
        have e13 := hR.f13 (hw 13 (by simp))
        simp only [e2, e13]
        clear e2 e13
        have CF1 := fun (_ : World) => CF W (hR.st hk)
        go_simp
        go_at_call 93
        (with_reducible refine ((CF1 W).out).mono ?_)
        rintro e w2 ⟨rfl, hb⟩
        go_simp
        refine hK.out _ _ ?_
        exact ⟨(fun jz => if jz = 40 then .pointer (some ⟨tb, 0, none⟩) else if jz = 51 then .int .i64 va else if jz = 52 then .agg #[.int .i64 fx, .int .i64 fy] else v jz), rfl, ⟨(fun _ => below_on (hR.st hk) hb), (fun h => absurd (upd_back h rfl) (by simp [hk])), hR.w4.o, hR.w5.o, hR.w6.o, hR.w8.o, hR.w9.o, hR.w11.o, hR.w12.o, hR.w13.o, (fun _ j hj => upd_on (hw j hj)), hR.w15.o, hR.w16.o, hR.f0.k, hR.f1.k, (fun _ => rfl), hR.f3.k, hR.f4.k, hR.f5.k, hR.f6.k, hR.f7.k, hR.f8.k, hR.f9.k, hR.f10.k, hR.f11.k, hR.f12.k, (fun _ => rfl), (fun _ => rfl), hR.f15.k⟩⟩
       refine EachOf.cons [0, 1] rfl (by kernel_rfl) ?_ ?_
       ·rintro L A W ⟨v, rfl, hR⟩ hi hw K hK
        have hk : L 16 = false := hR.w16.not hi rfl
        have e0 := hR.f0 (hw 0 (by simp))
        have e1 := hR.f1 (hw 1 (by simp))
        simp only [e0, e1]
        clear e0 e1
        go_simp
        refine hK.out _ _ ?_
        exact ⟨(fun jz => if jz = 38 then .slice (some ⟨xb, 0, none⟩) (n) (n) else if jz = 39 then .int .i64 (c : Int) else if jz = 53 then .pointer (some ⟨xb, c * 2, none⟩) else v jz), rfl, ⟨(fun h => hR.st (upd_false h)), hR.s1.k, hR.w4.o, hR.w5.o, hR.w6.o, hR.w8.o, hR.w9.o, hR.w11.o, hR.w12.o, hR.w13.o, hR.w14.o, (fun _ j hj => upd_on (hw j hj)), hR.w16.o, (fun _ => rfl), (fun _ => rfl), hR.f2.k, hR.f3.k, hR.f4.k, hR.f5.k, hR.f6.k, hR.f7.k, hR.f8.k, hR.f9.k, hR.f10.k, hR.f11.k, hR.f12.k, hR.f13.k, hR.f14.k, (fun _ => rfl)⟩⟩
       refine EachOf.cons [0, 1, 2, 3, 4, 5, 6, 7, 8, 9, 10, 11, 12, 13, 14, 15] rfl (by kernel_rfl) ?_ ?_
       ·rintro L A W ⟨v, rfl, hR⟩ hi hw K hK
        have e15 := hR.f15 (hw 15 (by simp))
        have e14 := hR.f14 (hw 14 (by simp))
        simp only [e15, e14]
        clear e15 e14
        have q1 := (hR.st hi).cell (p := ⟨xb, c * 2, none⟩) LX.out.2.2
        rw [LX.out.1] at q1
        have q2 := (hR.st hi).cell (p := ⟨xb, c * 2 + 1, none⟩) LX.out.2.2
        rw [LX.out.2.1] at q2
        have q3 := (hR.st hi).frozen (p := ⟨xb, c * 2, none⟩) LX.out.2.2
        rw [LF.out.1] at q3
        have q4 := (hR.st hi).frozen (p := ⟨xb, c * 2 + 1, none⟩) LX.out.2.2
        rw [LF.out.2] at q4
        go_simp
        refine hK.out _ _ ?_
        exact ⟨(fun jz => if jz = 53 then .pointer (some ⟨xb, c * 2, none⟩) else if jz = 52 then .agg #[.int .i64 fx, .int .i64 fy] else v jz), rfl, ⟨(fun h => by simp [upd_self] at h), (fun _ => ⟨W, hR.st hi, rfl⟩), hR.w4.o, hR.w5.o, hR.w6.o, hR.w8.o, hR.w9.o, hR.w11.o, hR.w12.o, hR.w13.o, hR.w14.o, hR.w15.o, (fun _ j hj => upd_on (hw j hj)), hR.f0.k, hR.f1.k, hR.f2.k, hR.f3.k, hR.f4.k, hR.f5.k, hR.f6.k, hR.f7.k, hR.f8.k, hR.f9.k, hR.f10.k, hR.f11.k, hR.f12.k, hR.f13.k, (fun _ => rfl), (fun _ => rfl)⟩⟩
       exact EachOf.nil
      rintro L A W ⟨v, rfl, hR⟩ hL
      obtain ⟨W4, hb4, hW⟩ := hR.s1 (hL 16 (by simp))
      have T : Hid (FrX W xb n (pntF n E b R D (i + 1)) ∧ Below w.heap.size w W) := by
       rw [hW, HES.out, if_pos hcn, HSF.out]
       exact ⟨(S.out.1.on hb4).set c hcn fx fy, ((below_on S.out.2 hb4).setCell (by show w.heap.size ≤ xb; rw [HXB.out]; exact Nat.le_refl _) _).setCell (by show w.heap.size ≤ xb; rw [HXB.out]; exact Nat.le_refl _) _⟩
      clear hW hb4 hR hL L0 LI LA LX LF CR CF S H3 l3
      go_wp2_with fail
      rw [← ed]
      go_roundg (m - (i + 1))
      case measure => omega
      case rel => exact ⟨i + 1, rfl, rfl, by omega, T⟩
     ·have d1 : decide ((c : Int) < (n : Int)) = false := decide_eq_false (by omega)
      have T : Hid (FrX W3 xb n (pntF n E b R D (i + 1)) ∧ Below w.heap.size w W3) := by rw [HES.out, if_neg hcn]; exact S.out
      clear S H3
      go_wp2_with fail
      rw [← ed]
      go_roundg (m - (i + 1))
      case measure => omega
      case rel => exact ⟨i + 1, rfl, rfl, by omega, T⟩
    ·have e : m = i := by omega
     subst e
     go_wp2_with fail
     go_ret
     exact ⟨xb, rfl, by rw [HXB.out]; exact Nat.le_refl _, S.out.2, S.out.1⟩

def mltF (E : Nat → Nat → Int) (sg : Nat → Int) (q N : Nat) (lk D : Int) : Nat → Int × Int := fun i => shF (sg i * (lk * D - E q (N + i))) D

set_option maxRecDepth 100000 in
set_option maxHeartbeats 16000000 in
theorem multipliers_any (qr : Nat) (lk : Int) (w : World) (h : TSt B0 w tb rb Cb bb sb m n wd pa pb pc pd G C E β sg D) (hwd : wd = n + m + m + 1) (hm : m ≤ 1000) (hn : n ≤ 1000) (hq : qr < m + 2) (hlk : lk = 0 ∨ lk = 1) (hsg : ∀ i, i < m → sg i = 1 ∨ sg i = -1) (hD : 0 < D ∧ D ≤ 1152921504606846976) (hE : ∀ j, j < wd → -1152921504606846976 ≤ E qr j ∧ E qr j ≤ 1152921504606846976) :
  Calls Tryz.prog 54 #[.pointer (some ⟨tb, 0, none⟩), .slice (some ⟨G qr, 0, none⟩) wd (C qr), .int .i64 lk] w fun e w' => ∃ xb, e = .returned (.slice (some ⟨xb, 0, none⟩) m m) ∧ w.heap.size ≤ xb ∧ Below w.heap.size w w' ∧ FrX w' xb m (mltF E sg qr (n + m) lk D) := by
 have HH := Lib.hid h
 have HE := Lib.hid hE
 have HD := Lib.hid hD
 have HSG := Lib.hid hsg
 have HLK := Lib.hid hlk
 have HWD := Lib.hid hwd
 obtain ⟨N, hN⟩ : ∃ R, R = n + m := ⟨_, rfl⟩
 have CR0 := fun W (hb : Below w.heap.size w W) => Lib.hid ((firstLack_any W (h.on hb) hm hn).mono (R' := fun e w' => e = .returned (.int .i64 ((n + m : Nat) : Int)) ∧ Below W.heap.size W w') (fun e w' q => ⟨q.1, by obtain ⟨k, hk⟩ := q.2; rw [hk]; exact below_drewN' (Below.refl _ _) k⟩))
 rw [← hN] at CR0
 have HCL := Lib.hid CR0
 have HN := Lib.hid hN
 rw [← hN]
 have q1 := h.t.c1
 have hN2 : N ≤ 2000 := by omega
 clear CR0 h hE hD hN hwd hsg hlk
 obtain ⟨i0, hi0, hz0, hz1, hz2⟩ := info_parts (show (Tryz.prog.info? 27).map (fun i => (i.zero, i.size, i.bytes)) = some (some (Value.agg #[Value.int IntKind.i64 0, Value.int IntKind.i64 0]), 2, 16) by kernel_rfl)
 go_enter Tryz.func54, Tryz.ntmps54
 go_upto_region 2 with (refine wpList_make_full _ rfl _ _ 28 rfl w.heap.size 27 i0 (Value.agg #[Value.int IntKind.i64 0, Value.int IntKind.i64 0]) 2 Tryz.underlying28 hi0 hz0 hz1 _ _ _ _ m rfl rfl rfl rfl (by rw [hz2]; omega) (by unfold maxLen; omega) (Nat.le_refl _) ?_; intro w1 ho hg)
 have hb6 : Below w.heap.size w w1 := ⟨hg.os, hg.tape, hg.output, hg.size, fun k hk => hg.block k hk (by simp)⟩
 obtain ⟨xb, hxb⟩ : ∃ x, x = w.heap.size := ⟨_, rfl⟩
 have F0 := FrX.made0 ho
 rw [← hxb] at F0
 rw [← hxb]
 have S0 : Hid (FrX w1 xb m (fun l => if l < 0 then mltF E sg qr N lk D l else (0, 0)) ∧ Below w.heap.size w w1) := ⟨F0.congr fun l _ => if_neg (by omega), hb6⟩
 have HXB := Lib.hid hxb
 have q2 := (HH.out.on hb6).t.c2
 clear q1 ho hg hb6 F0 hxb hi0 hz0 hz1 hz2 i0
 go_wp2_with fail
 clear q2
 go_loopg [21] m (fun g s21 wx => ∃ i : Nat, s21 = .int .i64 i ∧ g = m - i ∧ i ≤ m ∧ Hid (FrX wx xb m (fun l => if l < i then mltF E sg qr N lk D l else (0, 0)) ∧ Below w.heap.size w wx))
 case atStart => exact ⟨0, rfl, rfl, Nat.zero_le _, S0⟩
 case round =>
  clear S0
  obtain ⟨i, rfl, rfl, hi, S⟩ := hrel
  rename World => W3
  by_cases hlti : i < m
  ·have wki : IntKind.i64.wrap ((i : Int) + 1) = ((i + 1 : Nat) : Int) := by rw [IntWalk.i64_in _ (by omega)]; omega
   have wkn : IntKind.i64.wrap ((N : Int) + (i : Int)) = ((N + i : Nat) : Int) := by rw [IntWalk.i64_in _ (by omega)]; omega
   have H3 := Lib.hid (HH.out.on S.out.2)
   have cb := H3.out.si.cell i hlti
   have ed := H3.out.si.ad (by omega)
   rw [ed]
   obtain ⟨e1, he1⟩ : ∃ c, sg i = c := ⟨_, rfl⟩
   rw [he1] at cb
   have hs1 := HSG.out i hlti
   rw [he1] at hs1
   obtain ⟨va, hva⟩ : ∃ x, E qr (N + i) = x := ⟨_, rfl⟩
   have hNi : N + i < wd := by have := HWD.out; have := HN.out; omega
   have hE1 := HE.out (N + i) hNi
   rw [hva] at hE1
   have hD1 := HD.out
   have hl1 : lk * D = 0 ∨ lk * D = D := by
    rcases HLK.out with h | h <;> rw [h]
    ·exact .inl (Int.zero_mul _)
    ·exact .inr (Int.one_mul _)
   obtain ⟨p1, hp1⟩ : ∃ x, lk * D = x := ⟨_, rfl⟩
   rw [hp1] at hl1
   have hpd : -2305843009213693952 ≤ p1 - va ∧ p1 - va ≤ 2305843009213693952 := by omega
   have hpe : -2305843009213693952 ≤ e1 * (p1 - va) ∧ e1 * (p1 - va) ≤ 2305843009213693952 := by
    rcases hs1 with h | h <;> rw [h] <;> omega
   have wl : IntKind.i64.wrap (lk * D) = lk * D := by rw [hp1]; exact IntWalk.i64_in _ (by omega)
   have wd1 : IntKind.i64.wrap (lk * D - va) = lk * D - va := by rw [hp1]; exact IntWalk.i64_in _ (by omega)
   have we : IntKind.i64.wrap (e1 * (lk * D - va)) = e1 * (lk * D - va) := by rw [hp1]; exact IntWalk.i64_in _ (by omega)
   obtain ⟨fx, hfx⟩ : ∃ y, (shF (e1 * (lk * D - va)) D).1 = y := ⟨_, rfl⟩
   obtain ⟨fy, hfy⟩ : ∃ y, (shF (e1 * (lk * D - va)) D).2 = y := ⟨_, rfl⟩
   have hmk := shF_eq (e1 * (lk * D - va)) D
   rw [hfx, hfy] at hmk
   have HSF : Hid (mltF E sg qr N lk D i = (fx, fy)) := by
    show shF (sg i * (lk * D - E qr (N + i))) D = (fx, fy)
    rw [he1, hva, ← hfx, ← hfy]
   have L3 : Hid (W3.cell? ⟨tb, 3, none⟩ = some (.int .i64 D) ∧ tb < W3.heap.size) := ⟨H3.out.t.c3, H3.out.t.hb⟩
   have LA : Hid (W3.cell? ⟨G qr, N + i, none⟩ = some (.int .i64 va) ∧ G qr < W3.heap.size) := ⟨by rw [← hva]; exact H3.out.g.cell qr (N + i) hq hNi, (H3.out.g.row qr hq).2.1⟩
   have LX : Hid (W3.cell? ⟨xb, i * 2, none⟩ = some (.int .i64 0) ∧ W3.cell? ⟨xb, i * 2 + 1, none⟩ = some (.int .i64 0) ∧ xb < W3.heap.size) := ⟨by have := S.out.1.c0 i hlti; rwa [if_neg (by omega)] at this, by have := S.out.1.c1 i hlti; rwa [if_neg (by omega)] at this, S.out.1.hb⟩
   have LF : Hid (W3.frozen? ⟨xb, i * 2, none⟩ = false ∧ W3.frozen? ⟨xb, i * 2 + 1, none⟩ = false) := ⟨S.out.1.f0 i hlti, S.out.1.f1 i hlti⟩
   have CL := fun W (hb : Below W3.heap.size W3 W) => HCL.out W (below_on S.out.2 hb)
   have CF := fun W (hb : Below W3.heap.size W3 W) => Lib.hid (fraction_any tb _ _ _ _ D (e1 * (lk * D - va)) fx fy _ W (H3.out.on hb).t (by rw [hp1]; omega) (by rw [hp1]; omega) (by omega) (by omega) hmk)
   have HVA := Lib.hid hva
   clear hva hmk hfx hfy hE1 hD1 hl1 hp1 hpd hpe hs1 he1
   have l1 : ((N + i : Nat) : Int) < (wd : Int) := by omega
   have l2 : (N : Int) + (i : Int) < (wd : Int) := by omega
   go_upto_region 5 with fail
   clear cb
   refine wp_region_each (fun L A W => ∃ (v : Nat → Value), A = ⟨#[_, _, _, _, _, _, _, _, _, _, _, _, _, _, _, _, _, _, _, _, _, _, _, _, _, _, v 26, v 27, v 28, v 29, v 30, v 31, v 32, v 33, v 34, v 35, v 36, v 37, v 38, v 39, v 40, v 41, v 42, v 43, v 44, v 45, v 46, _, _], []⟩ ∧ MltR tb i qr N wd xb m G C e1 lk D va fx fy W3 L v W) (by kernel_rfl) (by kernel_rfl) ⟨fun jz => if jz = 26 then u26 else if jz = 27 then u27 else if jz = 28 then u28 else if jz = 29 then u29 else if jz = 30 then u30 else if jz = 31 then u31 else if jz = 32 then u32 else if jz = 33 then u33 else if jz = 34 then u34 else if jz = 35 then u35 else if jz = 36 then u36 else if jz = 37 then u37 else if jz = 38 then u38 else if jz = 39 then u39 else if jz = 40 then u40 else if jz = 41 then u41 else if jz = 42 then u42 else if jz = 43 then u43 else if jz = 44 then u44 else if jz = 45 then u45 else if jz = 46 then u46 else undef, rfl, ⟨(fun _ => Below.drew (Below.refl _ _)), Had.none, Had.none, Had.none, Had.none, Had.none, Had.none, Had.none, Had.none, Had.none, Had.none, Had.none, Had.none, Had.none, Had.none, Had.none, Had.none, Had.none, Had.none, Had.none, Had.none, Had.none, Had.none, Had.none, Had.none, Had.none, Had.none, Had.none, Had.none, Had.none, Had.none, Had.none, Had.none, Had.none, Had.none, Had.none⟩⟩ (rs := [0, 1, 2, 3, 4, 5, 6, 7, 8, 9, 10, 11, 12, 13, 14, 15, 16, 17, 18, 19, 20, 21]) (by kernel_rfl) ?_ ?_
   ·refine EachOf.cons [] rfl (by kernel_rfl) ?_ ?_
    ·rintro L A W ⟨v, rfl, hR⟩ hi hw K hK
     have hk : L 21 = false := hR.w21.not hi rfl
     go_simp
     refine hK.out _ _ ?_
     exact ⟨(fun jz => if jz = 26 then .slice (some ⟨xb, 0, none⟩) (m) (m) else v jz), rfl, ⟨(fun h => hR.st (upd_false h)), hR.s1.k, hR.w6.o, hR.w7.o, hR.w8.o, hR.w9.o, hR.w12.o, hR.w14.o, hR.w15.o, hR.w16.o, hR.w17.o, hR.w18.o, hR.w19.o, hR.w20.o, hR.w21.o, (fun _ => rfl), hR.f1.k, hR.f2.k, hR.f3.k, hR.f4.k, hR.f5.k, hR.f6.k, hR.f7.k, hR.f8.k, hR.f9.k, hR.f10.k, hR.f11.k, hR.f12.k, hR.f13.k, hR.f14.k, hR.f15.k, hR.f16.k, hR.f17.k, hR.f18.k, hR.f19.k, hR.f20.k⟩⟩
    refine EachOf.cons [] rfl (by kernel_rfl) ?_ ?_
    ·rintro L A W ⟨v, rfl, hR⟩ hi hw K hK
     have hk : L 21 = false := hR.w21.not hi rfl
     go_simp
     refine hK.out _ _ ?_
     exact ⟨(fun jz => if jz = 27 then .int .i64 (i : Int) else v jz), rfl, ⟨(fun h => hR.st (upd_false h)), hR.s1.k, hR.w6.o, hR.w7.o, hR.w8.o, hR.w9.o, hR.w12.o, hR.w14.o, hR.w15.o, hR.w16.o, hR.w17.o, hR.w18.o, hR.w19.o, hR.w20.o, hR.w21.o, hR.f0.k, (fun _ => rfl), hR.f2.k, hR.f3.k, hR.f4.k, hR.f5.k, hR.f6.k, hR.f7.k, hR.f8.k, hR.f9.k, hR.f10.k, hR.f11.k, hR.f12.k, hR.f13.k, hR.f14.k, hR.f15.k, hR.f16.k, hR.f17.k, hR.f18.k, hR.f19.k, hR.f20.k⟩⟩
    refine EachOf.cons [] rfl (by kernel_rfl) ?_ ?_
    ·rintro L A W ⟨v, rfl, hR⟩ hi hw K hK
     have hk : L 21 = false := hR.w21.not hi rfl
     go_simp
     refine hK.out _ _ ?_
     exact ⟨(fun jz => if jz = 28 then .pointer (some ⟨tb, 0, none⟩) else v jz), rfl, ⟨(fun h => hR.st (upd_false h)), hR.s1.k, hR.w6.o, hR.w7.o, hR.w8.o, hR.w9.o, hR.w12.o, hR.w14.o, hR.w15.o, hR.w16.o, hR.w17.o, hR.w18.o, hR.w19.o, hR.w20.o, hR.w21.o, hR.f0.k, hR.f1.k, (fun _ => rfl), hR.f3.k, hR.f4.k, hR.f5.k, hR.f6.k, hR.f7.k, hR.f8.k, hR.f9.k, hR.f10.k, hR.f11.k, hR.f12.k, hR.f13.k, hR.f14.k, hR.f15.k, hR.f16.k, hR.f17.k, hR.f18.k, hR.f19.k, hR.f20.k⟩⟩
    refine EachOf.cons [] rfl (by kernel_rfl) ?_ ?_
    ·rintro L A W ⟨v, rfl, hR⟩ hi hw K hK
     have hk : L 21 = false := hR.w21.not hi rfl
     go_simp
     refine hK.out _ _ ?_
     exact ⟨(fun jz => if jz = 29 then .int .i64 e1 else v jz), rfl, ⟨(fun h => hR.st (upd_false h)), hR.s1.k, hR.w6.o, hR.w7.o, hR.w8.o, hR.w9.o, hR.w12.o, hR.w14.o, hR.w15.o, hR.w16.o, hR.w17.o, hR.w18.o, hR.w19.o, hR.w20.o, hR.w21.o, hR.f0.k, hR.f1.k, hR.f2.k, (fun _ => rfl), hR.f4.k, hR.f5.k, hR.f6.k, hR.f7.k, hR.f8.k, hR.f9.k, hR.f10.k, hR.f11.k, hR.f12.k, hR.f13.k, hR.f14.k, hR.f15.k, hR.f16.k, hR.f17.k, hR.f18.k, hR.f19.k, hR.f20.k⟩⟩
    refine EachOf.cons [] rfl (by kernel_rfl) ?_ ?_
    ·rintro L A W ⟨v, rfl, hR⟩ hi hw K hK
     have hk : L 21 = false := hR.w21.not hi rfl
     go_simp
     refine hK.out _ _ ?_
     exact ⟨(fun jz => if jz = 30 then .int .i64 lk else v jz), rfl, ⟨(fun h => hR.st (upd_false h)), hR.s1.k, hR.w6.o, hR.w7.o, hR.w8.o, hR.w9.o, hR.w12.o, hR.w14.o, hR.w15.o, hR.w16.o, hR.w17.o, hR.w18.o, hR.w19.o, hR.w20.o, hR.w21.o, hR.f0.k, hR.f1.k, hR.f2.k, hR.f3.k, (fun _ => rfl), hR.f5.k, hR.f6.k, hR.f7.k, hR.f8.k, hR.f9.k, hR.f10.k, hR.f11.k, hR.f12.k, hR.f13.k, hR.f14.k, hR.f15.k, hR.f16.k, hR.f17.k, hR.f18.k, hR.f19.k, hR.f20.k⟩⟩
    refine EachOf.cons [] rfl (by kernel_rfl) ?_ ?_
    ·rintro L A W ⟨v, rfl, hR⟩ hi hw K hK
     have hk : L 21 = false := hR.w21.not hi rfl
     go_simp
     refine hK.out _ _ ?_
     exact ⟨(fun jz => if jz = 31 then .pointer (some ⟨tb, 0, none⟩) else v jz), rfl, ⟨(fun h => hR.st (upd_false h)), hR.s1.k, hR.w6.o, hR.w7.o, hR.w8.o, hR.w9.o, hR.w12.o, hR.w14.o, hR.w15.o, hR.w16.o, hR.w17.o, hR.w18.o, hR.w19.o, hR.w20.o, hR.w21.o, hR.f0.k, hR.f1.k, hR.f2.k, hR.f3.k, hR.f4.k, (fun _ => rfl), hR.f6.k, hR.f7.k, hR.f8.k, hR.f9.k, hR.f10.k, hR.f11.k, hR.f12.k, hR.f13.k, hR.f14.k, hR.f15.k, hR.f16.k, hR.f17.k, hR.f18.k, hR.f19.k, hR.f20.k⟩⟩
    refine EachOf.cons [5] rfl (by kernel_rfl) ?_ ?_
    ·rintro L A W ⟨v, rfl, hR⟩ hi hw K hK
     have hk : L 21 = false := hR.w21.not hi rfl
     have e5 := hR.f5 (hw 5 (by simp))
     simp only [e5]
     clear e5
     go_simp
     refine hK.out _ _ ?_
     exact ⟨(fun jz => if jz = 31 then .pointer (some ⟨tb, 0, none⟩) else if jz = 32 then .pointer (some ⟨tb, 0, none⟩) else v jz), rfl, ⟨(fun h => hR.st (upd_false h)), hR.s1.k, (fun _ j hj => upd_on (hw j hj)), hR.w7.o, hR.w8.o, hR.w9.o, hR.w12.o, hR.w14.o, hR.w15.o, hR.w16.o, hR.w17.o, hR.w18.o, hR.w19.o, hR.w20.o, hR.w21.o, hR.f0.k, hR.f1.k, hR.f2.k, hR.f3.k, hR.f4.k, (fun _ => rfl), (fun _ => rfl), hR.f7.k, hR.f8.k, hR.f9.k, hR.f10.k, hR.f11.k, hR.f12.k, hR.f13.k, hR.f14.k, hR.f15.k, hR.f16.k, hR.f17.k, hR.f18.k, hR.f19.k, hR.f20.k⟩⟩
    refine EachOf.cons [6] rfl (by kernel_rfl) ?_ ?_
    ·rintro L A W ⟨v, rfl, hR⟩ hi hw K hK
     have hk : L 21 = false := hR.w21.not hi rfl
     have e6 := hR.f6 (hw 6 (by simp))
     simp only [e6]
     clear e6
     go_simp
     refine hK.out _ _ ?_
     exact ⟨(fun jz => if jz = 32 then .pointer (some ⟨tb, 0, none⟩) else if jz = 33 then .pointer (some ⟨tb, 3, none⟩) else v jz), rfl, ⟨(fun h => hR.st (upd_false h)), hR.s1.k, hR.w6.o, (fun _ j hj => upd_on (hw j hj)), hR.w8.o, hR.w9.o, hR.w12.o, hR.w14.o, hR.w15.o, hR.w16.o, hR.w17.o, hR.w18.o, hR.w19.o, hR.w20.o, hR.w21.o, hR.f0.k, hR.f1.k, hR.f2.k, hR.f3.k, hR.f4.k, hR.f5.k, (fun _ => rfl), (fun _ => rfl), hR.f8.k, hR.f9.k, hR.f10.k, hR.f11.k, hR.f12.k, hR.f13.k, hR.f14.k, hR.f15.k, hR.f16.k, hR.f17.k, hR.f18.k, hR.f19.k, hR.f20.k⟩⟩
    refine EachOf.cons [7] rfl (by kernel_rfl) ?_ ?_
    ·rintro L A W ⟨v, rfl, hR⟩ hi hw K hK
     have hk : L 21 = false := hR.w21.not hi rfl
     have e7 := hR.f7 (hw 7 (by simp))
     simp only [e7]
     clear e7
     have q0 := ((hR.st hk).cell (p := ⟨tb, 3, none⟩) L3.out.2).trans L3.out.1
     go_simp
     refine hK.out _ _ ?_
     exact ⟨(fun jz => if jz = 33 then .pointer (some ⟨tb, 3, none⟩) else if jz = 34 then .int .i64 D else v jz), rfl, ⟨(fun h => hR.st (upd_false h)), hR.s1.k, hR.w6.o, hR.w7.o, (fun _ j hj => upd_on (hw j hj)), hR.w9.o, hR.w12.o, hR.w14.o, hR.w15.o, hR.w16.o, hR.w17.o, hR.w18.o, hR.w19.o, hR.w20.o, hR.w21.o, hR.f0.k, hR.f1.k, hR.f2.k, hR.f3.k, hR.f4.k, hR.f5.k, hR.f6.k, (fun _ => rfl), (fun _ => rfl), hR.f9.k, hR.f10.k, hR.f11.k, hR.f12.k, hR.f13.k, hR.f14.k, hR.f15.k, hR.f16.k, hR.f17.k, hR.f18.k, hR.f19.k, hR.f20.k⟩⟩
    refine EachOf.cons [4, 8] rfl (by kernel_rfl) ?_ ?_
    ·rintro L A W ⟨v, rfl, hR⟩ hi hw K hK
     have hk : L 21 = false := hR.w21.not hi rfl
     have e4 := hR.f4 (hw 4 (by simp))
     have e8 := hR.f8 (hw 8 (by simp))
     simp only [e4, e8]
     clear e4 e8
     go_simp
     refine hK.out _ _ ?_
     exact ⟨(fun jz => if jz = 30 then .int .i64 lk else if jz = 34 then .int .i64 D else if jz = 35 then .int .i64 (lk * D) else v jz), rfl, ⟨(fun h => hR.st (upd_false h)), hR.s1.k, hR.w6.o, hR.w7.o, hR.w8.o, (fun _ j hj => upd_on (hw j hj)), hR.w12.o, hR.w14.o, hR.w15.o, hR.w16.o, hR.w17.o, hR.w18.o, hR.w19.o, hR.w20.o, hR.w21.o, hR.f0.k, hR.f1.k, hR.f2.k, hR.f3.k, (fun _ => rfl), hR.f5.k, hR.f6.k, hR.f7.k, (fun _ => rfl), (fun _ => rfl), hR.f10.k, hR.f11.k, hR.f12.k, hR.f13.k, hR.f14.k, hR.f15.k, hR.f16.k, hR.f17.k, hR.f18.k, hR.f19.k, hR.f20.k⟩⟩
    refine EachOf.cons [] rfl (by kernel_rfl) ?_ ?_
    ·rintro L A W ⟨v, rfl, hR⟩ hi hw K hK
     have hk : L 21 = false := hR.w21.not hi rfl
     go_simp
     refine hK.out _ _ ?_
     exact ⟨(fun jz => if jz = 36 then .slice (some ⟨G qr, 0, none⟩) (wd) (C qr) else v jz), rfl, ⟨(fun h => hR.st (upd_false h)), hR.s1.k, hR.w6.o, hR.w7.o, hR.w8.o, hR.w9.o, hR.w12.o, hR.w14.o, hR.w15.o, hR.w16.o, hR.w17.o, hR.w18.o, hR.w19.o, hR.w20.o, hR.w21.o, hR.f0.k, hR.f1.k, hR.f2.k, hR.f3.k, hR.f4.k, hR.f5.k, hR.f6.k, hR.f7.k, hR.f8.k, hR.f9.k, (fun _ => rfl), hR.f11.k, hR.f12.k, hR.f13.k, hR.f14.k, hR.f15.k, hR.f16.k, hR.f17.k, hR.f18.k, hR.f19.k, hR.f20.k⟩⟩
    refine EachOf.cons [] rfl (by kernel_rfl) ?_ ?_
    ·rintro L A W ⟨v, rfl, hR⟩ hi hw K hK
     have hk : L 21 = false := hR.w21.not hi rfl
     go_simp
     refine hK.out _ _ ?_
     exact ⟨(fun jz => if jz = 37 then .pointer (some ⟨tb, 0, none⟩) else v jz), rfl, ⟨(fun h => hR.st (upd_false h)), hR.s1.k, hR.w6.o, hR.w7.o, hR.w8.o, hR.w9.o, hR.w12.o, hR.w14.o, hR.w15.o, hR.w16.o, hR.w17.o, hR.w18.o, hR.w19.o, hR.w20.o, hR.w21.o, hR.f0.k, hR.f1.k, hR.f2.k, hR.f3.k, hR.f4.k, hR.f5.k, hR.f6.k, hR.f7.k, hR.f8.k, hR.f9.k, hR.f10.k, (fun _ => rfl), hR.f12.k, hR.f13.k, hR.f14.k, hR.f15.k, hR.f16.k, hR.f17.k, hR.f18.k, hR.f19.k, hR.f20.k⟩⟩
    refine EachOf.cons [11] rfl (by kernel_rfl) ?_ ?_
    ·rintro L A W ⟨v, rfl, hR⟩ hi hw K hK
     have hk : L 21 = false := hR.w21.not hi rfl
     have e11 := hR.f11 (hw 11 (by simp))
     simp only [e11]
     clear e11
     have CL1 := fun (_ : World) => CL W (hR.st hk)
     go_simp
     go_at_call 87
     (with_reducible refine ((CL1 W).out).mono ?_)
     rintro e w2 ⟨rfl, hb⟩
     go_simp
     refine hK.out _ _ ?_
     exact ⟨(fun jz => if jz = 37 then .pointer (some ⟨tb, 0, none⟩) else if jz = 38 then .int .i64 (N : Int) else v jz), rfl, ⟨(fun _ => below_on (hR.st hk) hb), (fun h => absurd (upd_back h rfl) (by simp [hk])), hR.w6.o, hR.w7.o, hR.w8.o, hR.w9.o, (fun _ j hj => upd_on (hw j hj)), hR.w14.o, hR.w15.o, hR.w16.o, hR.w17.o, hR.w18.o, hR.w19.o, hR.w20.o, hR.w21.o, hR.f0.k, hR.f1.k, hR.f2.k, hR.f3.k, hR.f4.k, hR.f5.k, hR.f6.k, hR.f7.k, hR.f8.k, hR.f9.k, hR.f10.k, (fun _ => rfl), (fun _ => rfl), hR.f13.k, hR.f14.k, hR.f15.k, hR.f16.k, hR.f17.k, hR.f18.k, hR.f19.k, hR.f20.k⟩⟩
    refine EachOf.cons [] rfl (by kernel_rfl) ?_ ?_
    ·rintro L A W ⟨v, rfl, hR⟩ hi hw K hK
     have hk : L 21 = false := hR.w21.not hi rfl
     go_simp
     refine hK.out _ _ ?_
     exact ⟨(fun jz => if jz = 39 then .int .i64 (i : Int) else v jz), rfl, ⟨(fun h => hR.st (upd_false h)), hR.s1.k, hR.w6.o, hR.w7.o, hR.w8.o, hR.w9.o, hR.w12.o, hR.w14.o, hR.w15.o, hR.w16.o, hR.w17.o, hR.w18.o, hR.w19.o, hR.w20.o, hR.w21.o, hR.f0.k, hR.f1.k, hR.f2.k, hR.f3.k, hR.f4.k, hR.f5.k, hR.f6.k, hR.f7.k, hR.f8.k, hR.f9.k, hR.f10.k, hR.f11.k, hR.f12.k, (fun _ => rfl), hR.f14.k, hR.f15.k, hR.f16.k, hR.f17.k, hR.f18.k, hR.f19.k, hR.f20.k⟩⟩
    refine EachOf.cons [12, 13] rfl (by kernel_rfl) ?_ ?_
    ·rintro L A W ⟨v, rfl, hR⟩ hi hw K hK
     have hk : L 21 = false := hR.w21.not hi rfl
     have e12 := hR.f12 (hw 12 (by simp))
     have e13 := hR.f13 (hw 13 (by simp))
     simp only [e12, e13]
     clear e12 e13
     go_simp
     refine hK.out _ _ ?_
     exact ⟨(fun jz => if jz = 38 then .int .i64 (N : Int) else if jz = 39 then .int .i64 (i : Int) else if jz = 40 then .int .i64 ((N + i : Nat) : Int) else v jz), rfl, ⟨(fun h => hR.st (upd_false h)), hR.s1.k, hR.w6.o, hR.w7.o, hR.w8.o, hR.w9.o, hR.w12.o, (fun _ j hj => upd_on (hw j hj)), hR.w15.o, hR.w16.o, hR.w17.o, hR.w18.o, hR.w19.o, hR.w20.o, hR.w21.o, hR.f0.k, hR.f1.k, hR.f2.k, hR.f3.k, hR.f4.k, hR.f5.k, hR.f6.k, hR.f7.k, hR.f8.k, hR.f9.k, hR.f10.k, hR.f11.k, (fun _ => rfl), (fun _ => rfl), (fun _ => rfl), hR.f15.k, hR.f16.k, hR.f17.k, hR.f18.k, hR.f19.k, hR.f20.k⟩⟩
    refine EachOf.cons [10, 14] rfl (by kernel_rfl) ?_ ?_
    ·rintro L A W ⟨v, rfl, hR⟩ hi hw K hK
     have hk : L 21 = false := hR.w21.not hi rfl
     have e10 := hR.f10 (hw 10 (by simp))
     have e14 := hR.f14 (hw 14 (by simp))
     simp only [e10, e14]
     clear e10 e14
     go_simp
     refine hK.out _ _ ?_
     exact ⟨(fun jz => if jz = 36 then .slice (some ⟨G qr, 0, none⟩) (wd) (C qr) else if jz = 40 then .int .i64 ((N + i : Nat) : Int) else if jz = 41 then .pointer (some ⟨G qr, (N + i : Nat), none⟩) else v jz), rfl, ⟨(fun h => hR.st (upd_false h)), hR.s1.k, hR.w6.o, hR.w7.o, hR.w8.o, hR.w9.o, hR.w12.o, hR.w14.o, (fun _ j hj => upd_on (hw j hj)), hR.w16.o, hR.w17.o, hR.w18.o, hR.w19.o, hR.w20.o, hR.w21.o, hR.f0.k, hR.f1.k, hR.f2.k, hR.f3.k, hR.f4.k, hR.f5.k, hR.f6.k, hR.f7.k, hR.f8.k, hR.f9.k, (fun _ => rfl), hR.f11.k, hR.f12.k, hR.f13.k, (fun _ => rfl), (fun _ => rfl), hR.f16.k, hR.f17.k, hR.f18.k, hR.f19.k, hR.f20.k⟩⟩
    refine EachOf.cons [15] rfl (by kernel_rfl) ?_ ?_
    ·rintro L A W ⟨v, rfl, hR⟩ hi hw K hK
     have hk : L 21 = false := hR.w21.not hi rfl
     have e15 := hR.f15 (hw 15 (by simp))
     simp only [e15]
     clear e15
     have q0 := ((hR.st hk).cell (p := ⟨G qr, (N + i : Nat), none⟩) LA.out.2).trans LA.out.1
     go_simp
     refine hK.out _ _ ?_
     exact ⟨(fun jz => if jz = 41 then .pointer (some ⟨G qr, (N + i : Nat), none⟩) else if jz = 42 then .int .i64 va else v jz), rfl, ⟨(fun h => hR.st (upd_false h)), hR.s1.k, hR.w6.o, hR.w7.o, hR.w8.o, hR.w9.o, hR.w12.o, hR.w14.o, hR.w15.o, (fun _ j hj => upd_on (hw j hj)), hR.w17.o, hR.w18.o, hR.w19.o, hR.w20.o, hR.w21.o, hR.f0.k, hR.f1.k, hR.f2.k, hR.f3.k, hR.f4.k, hR.f5.k, hR.f6.k, hR.f7.k, hR.f8.k, hR.f9.k, hR.f10.k, hR.f11.k, hR.f12.k, hR.f13.k, hR.f14.k, (fun _ => rfl), (fun _ => rfl), hR.f17.k, hR.f18.k, hR.f19.k, hR.f20.k⟩⟩
    refine EachOf.cons [9, 16] rfl (by kernel_rfl) ?_ ?_
    ·rintro L A W ⟨v, rfl, hR⟩ hi hw K hK
     have hk : L 21 = false := hR.w21.not hi rfl
     have e9 := hR.f9 (hw 9 (by simp))
     have e16 := hR.f16 (hw 16 (by simp))
     simp only [e9, e16]
     clear e9 e16
     go_simp
     refine hK.out _ _ ?_
     exact ⟨(fun jz => if jz = 35 then .int .i64 (lk * D) else if jz = 42 then .int .i64 va else if jz = 43 then .int .i64 (lk * D - va) else v jz), rfl, ⟨(fun h => hR.st (upd_false h)), hR.s1.k, hR.w6.o, hR.w7.o, hR.w8.o, hR.w9.o, hR.w12.o, hR.w14.o, hR.w15.o, hR.w16.o, (fun _ j hj => upd_on (hw j hj)), hR.w18.o, hR.w19.o, hR.w20.o, hR.w21.o, hR.f0.k, hR.f1.k, hR.f2.k, hR.f3.k, hR.f4.k, hR.f5.k, hR.f6.k, hR.f7.k, hR.f8.k, (fun _ => rfl), hR.f10.k, hR.f11.k, hR.f12.k, hR.f13.k, hR.f14.k, hR.f15.k, (fun _ => rfl), (fun _ => rfl), hR.f18.k, hR.f19.k, hR.f20.k⟩⟩
    refine EachOf.cons [3, 17] rfl (by kernel_rfl) ?_ ?_
    ·rintro L A W ⟨v, rfl, hR⟩ hi hw K hK
     have hk : L 21 = false := hR.w21.not hi rfl
     have e3 := hR.f3 (hw 3 (by simp))
     have e17 := hR.f17 (hw 17 (by simp))
     simp only [e3, e17]
     clear e3 e17
     go_simp
     refine hK.out _ _ ?_
     exact ⟨(fun jz => if jz = 29 then .int .i64 e1 else if jz = 43 then .int .i64 (lk * D - va) else if jz = 44 then .int .i64 (e1 * (lk * D - va)) else v jz), rfl, ⟨(fun h => hR.st (upd_false h)), hR.s1.k, hR.w6.o, hR.w7.o, hR.w8.o, hR.w9.o, hR.w12.o, hR.w14.o, hR.w15.o, hR.w16.o, hR.w17.o, (fun _ j hj => upd_on (hw j hj)), hR.w19.o, hR.w20.o, hR.w21.o, hR.f0.k, hR.f1.k, hR.f2.k, (fun _ => rfl), hR.f4.k, hR.f5.k, hR.f6.k, hR.f7.k, hR.f8.k, hR.f9.k, hR.f10.k, hR.f11.k, hR.f12.k, hR.f13.k, hR.f14.k, hR.f15.k, hR.f16.k, (fun _ => rfl), (fun _ => rfl), hR.f19.k, hR.f20.k⟩⟩
    refine EachOf.cons [2, 18] rfl (by kernel_rfl) ?_ ?_
    ·rintro L A W ⟨v, rfl, hR⟩ hi hw K hK
     have hk : L 21 = false := hR.w21.not hi rfl
     have e2 := hR.f2 (hw 2 (by simp))
     have e18 := hR.f18 (hw 18 (by simp))
     simp only [e2, e18]
     clear e2 e18
     have CF1 := fun (_ : World) => CF W (hR.st hk)
     go_simp
     go_at_call 93
     (with_reducible refine ((CF1 W).out).mono ?_)
     rintro e w2 ⟨rfl, hb⟩
     go_simp
     refine hK.out _ _ ?_
     exact ⟨(fun jz => if jz = 28 then .pointer (some ⟨tb, 0, none⟩) else if jz = 44 then .int .i64 (e1 * (lk * D - va)) else if jz = 45 then .agg #[.int .i64 fx, .int .i64 fy] else v jz), rfl, ⟨(fun _ => below_on (hR.st hk) hb), (fun h => absurd (upd_back h rfl) (by simp [hk])), hR.w6.o, hR.w7.o, hR.w8.o, hR.w9.o, hR.w12.o, hR.w14.o, hR.w15.o, hR.w16.o, hR.w17.o, hR.w18.o, (fun _ j hj => upd_on (hw j hj)), hR.w20.o, hR.w21.o, hR.f0.k, hR.f1.k, (fun _ => rfl), hR.f3.k, hR.f4.k, hR.f5.k, hR.f6.k, hR.f7.k, hR.f8.k, hR.f9.k, hR.f10.k, hR.f11.k, hR.f12.k, hR.f13.k, hR.f14.k, hR.f15.k, hR.f16.k, hR.f17.k, (fun _ => rfl), (fun _ => rfl), hR.f20.k⟩⟩
    refine EachOf.cons [0, 1] rfl (by kernel_rfl) ?_ ?_
    ·rintro L A W ⟨v, rfl, hR⟩ hi hw K hK
     have hk : L 21 = false := hR.w21.not hi rfl
     have e0 := hR.f0 (hw 0 (by simp))
     have e1 := hR.f1 (hw 1 (by simp))
     simp only [e0, e1]
     clear e0 e1
     go_simp
     refine hK.out _ _ ?_
     exact ⟨(fun jz => if jz = 26 then .slice (some ⟨xb, 0, none⟩) (m) (m) else if jz = 27 then .int .i64 (i : Int) else if jz = 46 then .pointer (some ⟨xb, i * 2, none⟩) else v jz), rfl, ⟨(fun h => hR.st (upd_false h)), hR.s1.k, hR.w6.o, hR.w7.o, hR.w8.o, hR.w9.o, hR.w12.o, hR.w14.o, hR.w15.o, hR.w16.o, hR.w17.o, hR.w18.o, hR.w19.o, (fun _ j hj => upd_on (hw j hj)), hR.w21.o, (fun _ => rfl), (fun _ => rfl), hR.f2.k, hR.f3.k, hR.f4.k, hR.f5.k, hR.f6.k, hR.f7.k, hR.f8.k, hR.f9.k, hR.f10.k, hR.f11.k, hR.f12.k, hR.f13.k, hR.f14.k, hR.f15.k, hR.f16.k, hR.f17.k, hR.f18.k, hR.f19.k, (fun _ => rfl)⟩⟩
    refine EachOf.cons [0, 1, 2, 3, 4, 5, 6, 7, 8, 9, 10, 11, 12, 13, 14, 15, 16, 17, 18, 19, 20] rfl (by kernel_rfl) ?_ ?_
    ·rintro L A W ⟨v, rfl, hR⟩ hi hw K hK
     have e20 := hR.f20 (hw 20 (by simp))
     have e19 := hR.f19 (hw 19 (by simp))
     simp only [e20, e19]
     clear e20 e19
     have q1 := (hR.st hi).cell (p := ⟨xb, i * 2, none⟩) LX.out.2.2
     rw [LX.out.1] at q1
     have q2 := (hR.st hi).cell (p := ⟨xb, i * 2 + 1, none⟩) LX.out.2.2
     rw [LX.out.2.1] at q2
     have q3 := (hR.st hi).frozen (p := ⟨xb, i * 2, none⟩) LX.out.2.2
     rw [LF.out.1] at q3
     have q4 := (hR.st hi).frozen (p := ⟨xb, i * 2 + 1, none⟩) LX.out.2.2
     rw [LF.out.2] at q4
     go_simp
     refine hK.out _ _ ?_
     exact ⟨(fun jz => if jz = 46 then .pointer (some ⟨xb, i * 2, none⟩) else if jz = 45 then .agg #[.int .i64 fx, .int .i64 fy] else v jz), rfl, ⟨(fun h => by simp [upd_self] at h), (fun _ => ⟨W, hR.st hi, rfl⟩), hR.w6.o, hR.w7.o, hR.w8.o, hR.w9.o, hR.w12.o, hR.w14.o, hR.w15.o, hR.w16.o, hR.w17.o, hR.w18.o, hR.w19.o, hR.w20.o, (fun _ j hj => upd_on (hw j hj)), hR.f0.k, hR.f1.k, hR.f2.k, hR.f3.k, hR.f4.k, hR.f5.k, hR.f6.k, hR.f7.k, hR.f8.k, hR.f9.k, hR.f10.k, hR.f11.k, hR.f12.k, hR.f13.k, hR.f14.k, hR.f15.k, hR.f16.k, hR.f17.k, hR.f18.k, (fun _ => rfl), (fun _ => rfl)⟩⟩
    exact EachOf.nil
   rintro L A W ⟨v, rfl, hR⟩ hL
   obtain ⟨W4, hb4, hW⟩ := hR.s1 (hL 21 (by simp))
   have T : Hid (FrX W xb m (fun l => if l < i + 1 then mltF E sg qr N lk D l else (0, 0)) ∧ Below w.heap.size w W) := by
    rw [hW]
    exact ⟨((S.out.1.on hb4).set i hlti fx fy).congr fun l hl => by
     unfold updF
     by_cases e : l = i
     ·subst e; rw [if_pos (by omega), if_pos rfl]; exact HSF.out
     ·rw [if_neg e]
      show _ = if l < i then mltF E sg qr N lk D l else (0, 0)
      by_cases g : l < i
      ·rw [if_pos g, if_pos (by omega)]
      ·rw [if_neg g, if_neg (by omega)], ((below_on S.out.2 hb4).setCell (by show w.heap.size ≤ xb; rw [HXB.out]; exact Nat.le_refl _) _).setCell (by show w.heap.size ≤ xb; rw [HXB.out]; exact Nat.le_refl _) _⟩
   clear hW hb4 hR hL L3 LA LX LF CL CF S H3
   go_wp2_with fail
   rw [← ed]
   go_roundg (m - (i + 1))
   case measure => omega
   case rel => exact ⟨i + 1, rfl, rfl, by omega, T⟩
  ·have e : m = i := by omega
   subst e
   go_wp2_with fail
   go_ret
   exact ⟨xb, rfl, by rw [HXB.out]; exact Nat.le_refl _, S.out.2, S.out.1.congr fun l hl => (if_pos hl).symm⟩

end
end Go.Proofs.YtggpdhdbeokkcaaGreat
