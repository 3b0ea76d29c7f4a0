/- Layer 5: how a table of the simplex method lies in memory; its plain readers. -/
import Derived.Test.YtggpdhdbeokkcaaGreatLElm
import Derived.Test.YtggpdhdbeokkcaaGreatPW
import Derived.Test.YtggpdhdbeokkcaaGreatPB
import Derived.Deep.QuietTactic
import Derived.BigQuiet
namespace Go.Proofs.YtggpdhdbeokkcaaGreat
set_option linter.unusedVariables false
open Go.RowKit Go.Shelf

/-- The table's own block: its rows, its basis, its signs, its denominator, its variables. -/
structure TBlk (W : World) (b : Nat) (v0 v1 v2 v3 v4 : Value) : Prop where
 hb : b < W.heap.size
 c0 : W.cell? ⟨b, 0, none⟩ = some v0
 c1 : W.cell? ⟨b, 1, none⟩ = some v1
 c2 : W.cell? ⟨b, 2, none⟩ = some v2
 c3 : W.cell? ⟨b, 3, none⟩ = some v3
 c4 : W.cell? ⟨b, 4, none⟩ = some v4
 fz : ∀ o, W.frozen? ⟨b, o, none⟩ = false
theorem TBlk.on {W W2 : World} {b : Nat} {v0 v1 v2 v3 v4 : Value} (h : TBlk W b v0 v1 v2 v3 v4) (hb : Below W.heap.size W W2) : TBlk W2 b v0 v1 v2 v3 v4 :=
 ⟨Nat.lt_of_lt_of_le h.hb hb.size, (hb.cell (p := ⟨b, 0, none⟩) h.hb).trans h.c0, (hb.cell (p := ⟨b, 1, none⟩) h.hb).trans h.c1, (hb.cell (p := ⟨b, 2, none⟩) h.hb).trans h.c2, (hb.cell (p := ⟨b, 3, none⟩) h.hb).trans h.c3, (hb.cell (p := ⟨b, 4, none⟩) h.hb).trans h.c4,
  fun o => (hb.frozen (p := ⟨b, o, none⟩) h.hb).trans (h.fz o)⟩
theorem TBlk.only {S : Nat → Prop} {W W2 : World} {b : Nat} {v0 v1 v2 v3 v4 : Value} (h : TBlk W b v0 v1 v2 v3 v4) (hb : Only S W W2) (hn : ¬ S b) : TBlk W2 b v0 v1 v2 v3 v4 :=
 ⟨Nat.lt_of_lt_of_le h.hb hb.size, (hb.cell (p := ⟨b, 0, none⟩) h.hb hn).trans h.c0, (hb.cell (p := ⟨b, 1, none⟩) h.hb hn).trans h.c1, (hb.cell (p := ⟨b, 2, none⟩) h.hb hn).trans h.c2, (hb.cell (p := ⟨b, 3, none⟩) h.hb hn).trans h.c3, (hb.cell (p := ⟨b, 4, none⟩) h.hb hn).trans h.c4,
  fun o => (hb.frozen (p := ⟨b, o, none⟩) h.hb hn).trans (h.fz o)⟩
theorem TBlk.far {W : World} {b c o : Nat} {v0 v1 v2 v3 v4 v : Value} (h : TBlk W b v0 v1 v2 v3 v4) (hne : c ≠ b) : TBlk (W.setCell ⟨c, o, none⟩ v) b v0 v1 v2 v3 v4 :=
 ⟨by simpa using h.hb, by rw [World.cell?_setCell_far _ _ _ _ hne]; exact h.c0, by rw [World.cell?_setCell_far _ _ _ _ hne]; exact h.c1, by rw [World.cell?_setCell_far _ _ _ _ hne]; exact h.c2, by rw [World.cell?_setCell_far _ _ _ _ hne]; exact h.c3, by rw [World.cell?_setCell_far _ _ _ _ hne]; exact h.c4, fun o => by simpa using h.fz o⟩
theorem TBlk.set0 {W : World} {b : Nat} {v0 v1 v2 v3 v4 : Value} (h : TBlk W b v0 v1 v2 v3 v4) (z : Value) : TBlk (W.setCell ⟨b, 0, none⟩ z) b z v1 v2 v3 v4 := by
 have n : ∀ j, 0 ≠ j → (W.setCell ⟨b, 0, none⟩ z).cell? ⟨b, j, none⟩ = W.cell? ⟨b, j, none⟩ := fun j hj => World.cell?_setCell_other _ _ _ _ (adr_ne hj)
 exact ⟨by simpa using h.hb, World.cell?_setCell_same' _ _ _ (by rw [h.c0]; rfl), (n 1 (by decide)).trans h.c1, (n 2 (by decide)).trans h.c2, (n 3 (by decide)).trans h.c3, (n 4 (by decide)).trans h.c4, fun o => by simpa using h.fz o⟩
theorem TBlk.set1 {W : World} {b : Nat} {v0 v1 v2 v3 v4 : Value} (h : TBlk W b v0 v1 v2 v3 v4) (z : Value) : TBlk (W.setCell ⟨b, 1, none⟩ z) b v0 z v2 v3 v4 := by
 have n : ∀ j, 1 ≠ j → (W.setCell ⟨b, 1, none⟩ z).cell? ⟨b, j, none⟩ = W.cell? ⟨b, j, none⟩ := fun j hj => World.cell?_setCell_other _ _ _ _ (adr_ne hj)
 exact ⟨by simpa using h.hb, (n 0 (by decide)).trans h.c0, World.cell?_setCell_same' _ _ _ (by rw [h.c1]; rfl), (n 2 (by decide)).trans h.c2, (n 3 (by decide)).trans h.c3, (n 4 (by decide)).trans h.c4, fun o => by simpa using h.fz o⟩
theorem TBlk.set2 {W : World} {b : Nat} {v0 v1 v2 v3 v4 : Value} (h : TBlk W b v0 v1 v2 v3 v4) (z : Value) : TBlk (W.setCell ⟨b, 2, none⟩ z) b v0 v1 z v3 v4 := by
 have n : ∀ j, 2 ≠ j → (W.setCell ⟨b, 2, none⟩ z).cell? ⟨b, j, none⟩ = W.cell? ⟨b, j, none⟩ := fun j hj => World.cell?_setCell_other _ _ _ _ (adr_ne hj)
 exact ⟨by simpa using h.hb, (n 0 (by decide)).trans h.c0, (n 1 (by decide)).trans h.c1, World.cell?_setCell_same' _ _ _ (by rw [h.c2]; rfl), (n 3 (by decide)).trans h.c3, (n 4 (by decide)).trans h.c4, fun o => by simpa using h.fz o⟩
theorem TBlk.set3 {W : World} {b : Nat} {v0 v1 v2 v3 v4 : Value} (h : TBlk W b v0 v1 v2 v3 v4) (z : Value) : TBlk (W.setCell ⟨b, 3, none⟩ z) b v0 v1 v2 z v4 := by
 have n : ∀ j, 3 ≠ j → (W.setCell ⟨b, 3, none⟩ z).cell? ⟨b, j, none⟩ = W.cell? ⟨b, j, none⟩ := fun j hj => World.cell?_setCell_other _ _ _ _ (adr_ne hj)
 exact ⟨by simpa using h.hb, (n 0 (by decide)).trans h.c0, (n 1 (by decide)).trans h.c1, (n 2 (by decide)).trans h.c2, World.cell?_setCell_same' _ _ _ (by rw [h.c3]; rfl), (n 4 (by decide)).trans h.c4, fun o => by simpa using h.fz o⟩
/-- A list of n integers in a block of its own; nil, or empty, or not. -/
structure OwnI (B0 : Nat) (W : World) (pa : Option Addr) (g n : Nat) (f : Nat → Int) : Prop where
 ad : 0 < n → pa = some ⟨g, 0, none⟩
 lo : 0 < n → B0 ≤ g
 hb : 0 < n → g < W.heap.size
 cell : ∀ i, i < n → W.cell? ⟨g, i, none⟩ = some (.int .i64 (f i))
 fz : ∀ i, i < n → W.frozen? ⟨g, i, none⟩ = false
theorem OwnI.on {B0 : Nat} {W W2 : World} {pa : Option Addr} {g n : Nat} {f : Nat → Int} (h : OwnI B0 W pa g n f) (hb : Below W.heap.size W W2) : OwnI B0 W2 pa g n f :=
 ⟨h.ad, h.lo, fun hn => Nat.lt_of_lt_of_le (h.hb hn) hb.size, fun i hi => (hb.cell (p := ⟨g, i, none⟩) (h.hb (by omega))).trans (h.cell i hi), fun i hi => (hb.frozen (p := ⟨g, i, none⟩) (h.hb (by omega))).trans (h.fz i hi)⟩
theorem OwnI.only {S : Nat → Prop} {B0 : Nat} {W W2 : World} {pa : Option Addr} {g n : Nat} {f : Nat → Int} (h : OwnI B0 W pa g n f) (hb : Only S W W2) (hn : 0 < n → ¬ S g) : OwnI B0 W2 pa g n f :=
 ⟨h.ad, h.lo, fun k => Nat.lt_of_lt_of_le (h.hb k) hb.size, fun i hi => (hb.cell (p := ⟨g, i, none⟩) (h.hb (by omega)) (hn (by omega))).trans (h.cell i hi), fun i hi => (hb.frozen (p := ⟨g, i, none⟩) (h.hb (by omega)) (hn (by omega))).trans (h.fz i hi)⟩
def setF (f : Nat → Int) (i0 : Nat) (v : Int) : Nat → Int := fun i => if i = i0 then v else f i
theorem OwnI.set {B0 : Nat} {W : World} {pa : Option Addr} {g n : Nat} {f : Nat → Int} (h : OwnI B0 W pa g n f) (i0 : Nat) (hi0 : i0 < n) (v : Int) : OwnI B0 (W.setCell ⟨g, i0, none⟩ (.int .i64 v)) pa g n (setF f i0 v) :=
 ⟨h.ad, h.lo, fun k => by simpa using h.hb k, fun i hi => by
  unfold setF
  by_cases e : i = i0
  ·subst e
   rw [if_pos rfl]
   exact World.cell?_setCell_same' _ _ _ (by rw [h.cell i hi]; rfl)
  ·rw [if_neg e, World.cell?_setCell_other _ _ _ _ (adr_ne (b := g) (i := i0) (j := i) (fun q => e q.symm))]
   exact h.cell i hi, fun i hi => by simpa using h.fz i hi⟩

/-- A table in memory. -/
structure TSt (B0 : Nat) (W : World) (tb rb Cb bb sb m n wd : Nat) (pa pb : Option Addr) (pc pd : Nat) (G C : Nat → Nat) (E : Nat → Nat → Int) (β : Nat → Int) (sg : Nat → Int) (D : Int) : Prop where
 t : TBlk W tb (.slice (some ⟨rb, 0, none⟩) (m + 2) Cb) (.slice pa m pc) (.slice pb m pd) (.int .i64 D) (.int .i64 (n : Nat))
 g : Grid B0 W rb (m + 2) wd G C E
 ba : OwnI B0 W pa bb m β
 si : OwnI B0 W pb sb m sg
 le : B0 ≤ tb
 n1 : tb ≠ rb
 n2 : ∀ i, i < m + 2 → G i ≠ tb
 n3 : 0 < m → bb ≠ tb ∧ bb ≠ rb ∧ bb ≠ sb ∧ ∀ i, i < m + 2 → G i ≠ bb
 n4 : 0 < m → sb ≠ tb ∧ sb ≠ rb ∧ ∀ i, i < m + 2 → G i ≠ sb
 cb : m + 2 ≤ Cb
section
variable {B0 : Nat} {W W2 : World} {tb rb Cb bb sb m n wd : Nat} {pa pb : Option Addr} {pc pd : Nat} {G C : Nat → Nat} {E : Nat → Nat → Int} {β : Nat → Int} {sg : Nat → Int} {D : Int}
theorem TSt.on (h : TSt B0 W tb rb Cb bb sb m n wd pa pb pc pd G C E β sg D) (hb : Below W.heap.size W W2) : TSt B0 W2 tb rb Cb bb sb m n wd pa pb pc pd G C E β sg D :=
 ⟨h.t.on hb, h.g.on hb, h.ba.on hb, h.si.on hb, h.le, h.n1, h.n2, h.n3, h.n4, h.cb⟩
theorem TSt.set (h : TSt B0 W tb rb Cb bb sb m n wd pa pb pc pd G C E β sg D) (i j : Nat) (hi : i < m + 2) (hj : j < wd) (v : Int) :
  TSt B0 (W.setCell ⟨G i, j, none⟩ (.int .i64 v)) tb rb Cb bb sb m n wd pa pb pc pd G C (setE E i j v) β sg D := by
 have o : Only (fun q => q = G i) W (W.setCell ⟨G i, j, none⟩ (.int .i64 v)) := (Only.refl (fun q => q = G i) W).setCell ⟨G i, j, none⟩ rfl _
 exact ⟨h.t.far (h.n2 i hi), h.g.set i j hi hj v, h.ba.only o (fun k e => (h.n3 k).2.2.2 i hi e.symm), h.si.only o (fun k e => (h.n4 k).2.2 i hi e.symm), h.le, h.n1, h.n2, h.n3, h.n4, h.cb⟩
theorem TSt.congr {F : Nat → Nat → Int} (h : TSt B0 W tb rb Cb bb sb m n wd pa pb pc pd G C E β sg D) (e : ∀ i j, i < m + 2 → j < wd → F i j = E i j) : TSt B0 W tb rb Cb bb sb m n wd pa pb pc pd G C F β sg D :=
 ⟨h.t, h.g.congr e, h.ba, h.si, h.le, h.n1, h.n2, h.n3, h.n4, h.cb⟩
theorem TSt.under (h : TSt B0 W tb rb Cb bb sb m n wd pa pb pc pd G C E β sg D) (D2 : Int) : TSt B0 (W.setCell ⟨tb, 3, none⟩ (.int .i64 D2)) tb rb Cb bb sb m n wd pa pb pc pd G C E β sg D2 := by
 have o : Only (fun q => q = tb) W (W.setCell ⟨tb, 3, none⟩ (.int .i64 D2)) := (Only.refl (fun q => q = tb) W).setCell ⟨tb, 3, none⟩ rfl _
 exact ⟨h.t.set3 _, h.g.only o (fun e => h.n1 e.symm) (fun i hi e => h.n2 i hi e), h.ba.only o (fun k e => (h.n3 k).1 e), h.si.only o (fun k e => (h.n4 k).1 e), h.le, h.n1, h.n2, h.n3, h.n4, h.cb⟩
theorem TSt.basis (h : TSt B0 W tb rb Cb bb sb m n wd pa pb pc pd G C E β sg D) (i : Nat) (hi : i < m) (v : Int) : TSt B0 (W.setCell ⟨bb, i, none⟩ (.int .i64 v)) tb rb Cb bb sb m n wd pa pb pc pd G C E (setF β i v) sg D := by
 have o : Only (fun q => q = bb) W (W.setCell ⟨bb, i, none⟩ (.int .i64 v)) := (Only.refl (fun q => q = bb) W).setCell ⟨bb, i, none⟩ rfl _
 have k := h.n3 (by omega)
 exact ⟨h.t.far k.1, h.g.only o (fun e => k.2.1 e.symm) (fun j hj e => k.2.2.2 j hj e), h.ba.set i hi v, h.si.only o (fun _ e => k.2.2.1 e.symm), h.le, h.n1, h.n2, h.n3, h.n4, h.cb⟩

set_option maxHeartbeats 1000000 in
theorem firstLack_any (w : World) (h : TSt B0 w tb rb Cb bb sb m n wd pa pb pc pd G C E β sg D) (hm : m ≤ 1000) (hn : n ≤ 1000) :
  Calls Tryz.prog 87 #[.pointer (some ⟨tb, 0, none⟩)] w fun e w' => e = .returned (.int .i64 ((n + m : Nat) : Int)) ∧ ∃ k, w' = w.drewN k := by
 have q1 := h.t.c1
 have q4 := h.t.c4
 have wk : IntKind.i64.wrap ((n : Int) + (m : Int)) = ((n + m : Nat) : Int) := by rw [IntWalk.i64_in _ (by omega)]; omega
 clear h
 go_enter Tryz.func87, Tryz.ntmps87
 go_upto_region 1 with fail
 go_quiet (fail)
 go_wp2
 go_ret
 exact ⟨rfl, _, rfl⟩

set_option maxHeartbeats 1000000 in
theorem right_any (w : World) (h : TSt B0 w tb rb Cb bb sb m n wd pa pb pc pd G C E β sg D) (hm : m ≤ 1000) (hn : n ≤ 1000) :
  Calls Tryz.prog 86 #[.pointer (some ⟨tb, 0, none⟩)] w fun e w' => e = .returned (.int .i64 ((n + m + m : Nat) : Int)) ∧ ∃ k, w' = w.drewN k := by
 have q1 := h.t.c1
 have q4 := h.t.c4
 have wk : IntKind.i64.wrap ((n : Int) + (m : Int) + (m : Int)) = ((n + m + m : Nat) : Int) := by rw [IntWalk.i64_in _ (by omega)]; omega
 have wk2 : IntKind.i64.wrap (((n + m : Nat) : Int) + (m : Int)) = ((n + m + m : Nat) : Int) := by rw [IntWalk.i64_in _ (by omega)]; omega
 have CF := fun k => Lib.hid (firstLack_any (w.drewN k) (h.on (below_drewN' (Below.refl _ _) k)) hm hn)
 clear h
 go_enter Tryz.func86, Tryz.ntmps86
 go_upto_region 1 with fail
 go_quiet ((go_at_call 87; (with_reducible exact Calls.quiet_of ((CF _).out))))
 go_wp2
 go_ret
 exact ⟨rfl, _, rfl⟩

set_option maxHeartbeats 1000000 in
theorem costs_any (w : World) (h : TSt B0 w tb rb Cb bb sb m n wd pa pb pc pd G C E β sg D) (hm : m ≤ 1000) :
  Calls Tryz.prog 51 #[.pointer (some ⟨tb, 0, none⟩)] w fun e w' => e = .returned (.slice (some ⟨G m, 0, none⟩) wd (C m)) ∧ ∃ k, w' = w.drewN k := by
 have q0 := h.t.c0
 have q1 := h.t.c1
 have q2 := h.g.top m (by omega)
 have l1 : ((m : Int) < ((m + 2 : Nat) : Int)) := by omega
 have l2 : (m : Int) < (m : Int) + 2 := by omega
 clear h
 go_enter Tryz.func51, Tryz.ntmps51
 go_upto_region 1 with fail
 go_quiet (fail)
 go_wp2
 go_ret
 exact ⟨rfl, _, rfl⟩

set_option maxHeartbeats 1000000 in
theorem lacks_any (w : World) (h : TSt B0 w tb rb Cb bb sb m n wd pa pb pc pd G C E β sg D) (hm : m ≤ 1000) :
  Calls Tryz.prog 55 #[.pointer (some ⟨tb, 0, none⟩)] w fun e w' => e = .returned (.slice (some ⟨G (m + 1), 0, none⟩) wd (C (m + 1))) ∧ ∃ k, w' = w.drewN k := by
 have q0 := h.t.c0
 have q1 := h.t.c1
 have q2 := h.g.top (m + 1) (by omega)
 have l1 : (((m + 1 : Nat) : Int) < ((m + 2 : Nat) : Int)) := by omega
 have l2 : (m : Int) + 1 < (m : Int) + 2 := by omega
 have wk : IntKind.i64.wrap ((m : Int) + 1) = ((m + 1 : Nat) : Int) := by rw [IntWalk.i64_in _ (by omega)]; omega
 clear h
 go_enter Tryz.func55, Tryz.ntmps55
 go_upto_region 1 with fail
 go_quiet (fail)
 go_wp2
 go_ret
 exact ⟨rfl, _, rfl⟩

end
end Go.Proofs.YtggpdhdbeokkcaaGreat
