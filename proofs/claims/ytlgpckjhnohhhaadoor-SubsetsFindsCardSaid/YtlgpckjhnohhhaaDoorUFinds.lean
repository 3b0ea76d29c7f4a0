/- Layer 7: the law SubsetsFinds, walked. -/
import Derived.Test.YtlgpckjhnohhhaaDoorUAwa
import Derived.Test.YtlgpckjhnohhhaaDoorURFst
namespace Go.Proofs.YtlgpckjhnohhhaaDoor
open Go.ChangeShapes Go.WideShapes Go.ChangeAt Go.RowKit Go.Joins Go.Deep Go.Shelf
set_option linter.unusedVariables false

/-- What search returned, as it is read. -/
def SrZ (n : Nat) (f : Nat → Int) (sum : Int) (least : Nat) (W : World) (v : Value) (er : Int) : Prop :=
  (er = 12 ∧ v = .slice none 0 0 ∧ ∀ x, ¬ Fam f n sum least x) ∨
  (er = 0 ∧ ∃ (l : List Nat) (pa : Option Addr) (pc : Nat), v = .slice pa l.length pc ∧ IsFst (Fam f n sum least) l ∧ l.length ≤ n ∧ Idx W pa l)
theorem SrO.z {n least : Nat} {f : Nat → Int} {sum er : Int} {w w' : World} {v : Value} (h : SrO n f sum least w w' v er) : SrZ n f sum least w' v er :=
  h.imp id fun ⟨e, l, pa, pc, h1, h2, h3, h4⟩ => ⟨e, l, pa, pc, h1, h2, h3, own_idx h4⟩
theorem SrZ.on {n least : Nat} {f : Nat → Int} {sum er : Int} {W W2 : World} {v : Value} (h : SrZ n f sum least W v er) (hb : Below W.heap.size W W2) : SrZ n f sum least W2 v er :=
  h.imp id fun ⟨e, l, pa, pc, h1, h2, h3, h4⟩ => ⟨e, l, pa, pc, h1, h2, h3, h4.on hb⟩
theorem same_no (xb : Nat) (ra : Option Addr) (n c : Nat) (w : World) :
    Calls Tryd.prog 21 #[.slice none 0 0, .int .i64 12, .int .i64 (-1), .pointer (some ⟨xb, 0, none⟩)] w fun e w' => e = .returned (.bool true) ∧ Below w.heap.size w w' := by
  go_enter Tryd.func21, Tryd.ntmps21
  go_wp2_with fail
  go_ret
  exact ⟨rfl, Below.refl _ _⟩
theorem same_yes (xb : Nat) (ra : Option Addr) (n c t : Nat) (pa : Option Addr) (pc : Nat) (l : List Nat) (w : World) (hx : w.cell? ⟨xb, 0, none⟩ = some (.slice ra n c)) (hl : Idx w pa l) (hn : n ≤ 16) (ht : t < 65536) (he : LR n t = l) :
    Calls Tryd.prog 21 #[.slice pa l.length pc, .int .i64 0, .int .i64 (t : Int), .pointer (some ⟨xb, 0, none⟩)] w fun e w' => e = .returned (.bool true) ∧ Below w.heap.size w w' := by
  have CI := Lib.hid (rInd_any ra n c t w hn (by omega))
  rw [show ixs (bitR t) n = l from he] at CI
  have hlen : l.length ≤ 16 := by rw [← he]; exact Nat.le_trans (LR_le n t) hn
  have CE := fun W qa qc (h : Below w.heap.size w W) (h2 : Idx W qa l) => Lib.hid (eq_true l.length l.length pa pc (l.map fun (i : Nat) => (i : Int)) qa qc (l.map fun (i : Nat) => (i : Int)) W (hl.on h).z h2.z (by simp) (by simp) (by omega) (by omega) rfl)
  have q : decide ((t : Int) < 0) = false := decide_eq_false (by omega)
  clear hl
  go_enter Tryd.func21, Tryd.ntmps21
  go_wp2_with (first
    | (go_at_call 17; (with_reducible refine ((CI.out).mono ?_)); rintro e w2 ⟨hb2, qa, qc, rfl, hown⟩; have E := (CE _ _ qc hb2 (own_idx hown)).out)
    | (go_at_call 14; (with_reducible refine (E.mono ?_)); rintro e w3 ⟨rfl, hb3⟩))
  go_ret
  exact ⟨rfl, below_on hb2 hb3⟩
theorem same_any (xb : Nat) (ra : Option Addr) (n c : Nat) (f : Nat → Int) (sum : Int) (least : Nat) (v : Value) (er b : Int) (w : World) (hx : w.cell? ⟨xb, 0, none⟩ = some (.slice ra n c)) (hs : SrZ n f sum least w v er) (hb : RfI f n sum least (2 ^ n) b) (hn : n ≤ 11) :
    Calls Tryd.prog 21 #[v, .int .i64 er, .int .i64 b, .pointer (some ⟨xb, 0, none⟩)] w fun e w' => e = .returned (.bool true) ∧ Below w.heap.size w w' := by
  have h2 := p2_le (show n ≤ 16 by omega)
  rcases hs with ⟨rfl, rfl, h⟩ | ⟨rfl, l, pa, pc, rfl, h, hl, hi⟩
  · rcases hb.done with ⟨rfl, _⟩ | ⟨t, _, _, h3⟩
    · exact same_no xb ra n c w
    · exact absurd h3.1 (h _)
  · rcases hb.done with ⟨_, h3⟩ | ⟨t, rfl, ht, h3⟩
    · exact absurd h.1 (h3 _)
    · exact same_yes xb ra n c t pa pc l w hx hi (by omega) (by omega) (h3.uniq h)

set_option maxRecDepth 100000 in
set_option maxHeartbeats 32000000 in
theorem lawFinds_any (ra : Option Addr) (n c : Nat) (f : Nat → Int) (sum : Int) (w : World) (hr : IRow w ra n f) (hd : DB w) (hn : n ≤ 9223372036854775807) :
    Calls Tryd.prog 4 #[.slice ra n c, .int .i64 sum] w fun e w' => e = .returned (.bool true) ∧ Below w.heap.size w w' := by
  have hb1 : Below w.heap.size w (w.alloc (Obj.cells #[.slice ra n c] 22)) := ab _ _
  obtain ⟨w1, hw1⟩ : ∃ W, W = w.alloc (Obj.cells #[.slice ra n c] 22) := ⟨_, rfl⟩
  obtain ⟨xb, hxb⟩ : ∃ x, x = w.heap.size := ⟨_, rfl⟩
  have hxl : xb < w1.heap.size := by rw [hw1, hxb]; simp
  have hxc : w1.cell? ⟨xb, 0, none⟩ = some (.slice ra n c) := by rw [hw1, hxb]; simp
  rw [← hw1] at hb1
  have HB := Lib.hid hb1
  have HX := Lib.hid (fun W (h : Below w1.heap.size w1 W) => (h.cell (p := ⟨xb, 0, none⟩) hxl).trans hxc)
  have HR := Lib.hid (hr.on hb1)
  have CA := Lib.hid (awake_any w1 (hd.on hb1))
  have HD := Lib.hid (hd.on hb1)
  have CL := fun W => Lib.hid (long_any ra n c W)
  have CG := fun W (h : Below w1.heap.size w1 W) => Lib.hid (Given_any ra n c f W (HR.out.on h) hn)
  clear hr hd hb1 hxl
  by_cases hlong : 8 < n ∧ n ≤ 16 ∨ 100 < n
  · rw [decide_eq_true hlong] at CL
    clear hlong
    go_enter Tryd.func4, Tryd.ntmps4
    go_upto_region 1 with fail
    rw [← hxb, ← hw1]
    clear hxb hw1
    go_wp2_with (first
      | (go_at_call 9; (with_reducible refine ((CA.out).mono ?_)); rintro e w2 ⟨rfl, hb2⟩; have q2 := HX.out _ hb2)
      | (go_at_call 10; (with_reducible refine (((CL _).out).mono ?_)); rintro e w3 ⟨rfl, rfl⟩))
    go_ret
    exact ⟨rfl, below_on HB.out hb2⟩
  · rw [decide_eq_false hlong] at CL
    by_cases hg : givE n f = 0
    · obtain ⟨hn8, hok⟩ : n ≤ 8 ∧ okF n f = true := by
        unfold givE at hg
        split at hg
        · cases hg
        · split at hg
          · rename_i h1 h2; exact ⟨by omega, h2⟩
          · cases hg
      have hf := of_decide_eq_true hok
      rw [hg] at CG
      have C1 := fun W (h : Below w1.heap.size w1 W) => Lib.hid (Find_ok ra n c f sum W (HR.out.on h) (HD.out.on h) (by omega) hok)
      have C2 := fun W (h : Below w1.heap.size w1 W) => Lib.hid (Zero_ok ra n c f W (HR.out.on h) (HD.out.on h) (by omega) hok)
      have F1 := fun W (h : Below w1.heap.size w1 W) => Lib.hid (rFirst_any ra n c f sum 0 W (HR.out.on h) (by omega) hf (by omega))
      have F2 := fun W (h : Below w1.heap.size w1 W) => Lib.hid (rFirst_any ra n c f 0 1 W (HR.out.on h) (by omega) hf (by omega))
      rw [show ((0 : Nat) : Int) = 0 from rfl] at F1
      rw [show ((1 : Nat) : Int) = 1 from rfl] at F2
      have S1 := fun v er b W (h : Below w1.heap.size w1 W) (hs : SrZ n f sum 0 W v er) (hb : RfI f n sum 0 (2 ^ n) b) => Lib.hid (same_any xb ra n c f sum 0 v er b W (HX.out _ h) hs hb (by omega))
      have S2 := fun v er b W (h : Below w1.heap.size w1 W) (hs : SrZ n f 0 1 W v er) (hb : RfI f n 0 1 (2 ^ n) b) => Lib.hid (same_any xb ra n c f 0 1 v er b W (HX.out _ h) hs hb (by omega))
      clear hf hg hok hlong
      go_enter Tryd.func4, Tryd.ntmps4
      go_upto_region 1 with fail
      rw [← hxb, ← hw1]
      clear hxb hw1
      go_upto_region 11 with (first
        | (go_at_call 9; (with_reducible refine ((CA.out).mono ?_)); rintro e w2 ⟨rfl, hb2⟩; have q2 := HX.out _ hb2)
        | (go_at_call 10; (with_reducible refine (((CL _).out).mono ?_)); rintro e w3 ⟨rfl, rfl⟩)
        | (go_at_call 19; (with_reducible refine (((C1 _ hb2).out).mono ?_)); rintro e w3 ⟨hb3, v1, e1, rfl, hs1⟩; have HB3 := Lib.hid (below_on hb2 hb3); have q3 := HX.out _ HB3.out)
        | (go_at_call 20; (with_reducible refine (((C2 _ HB3.out).out).mono ?_)); rintro e w4 ⟨hb4, v2, e2, rfl, hs2⟩; have HB4 := Lib.hid (below_on HB3.out hb4); have q4 := HX.out _ HB4.out)
        | (go_at_call 13; (with_reducible refine (((CG _ HB4.out).out).mono ?_)); rintro e w5 ⟨rfl, rfl⟩))
      have Z1 := Lib.hid (hs1.z.on hb4)
      have Z2 := Lib.hid hs2.z
      clear hs1 hs2 hb3 hb4 hb2 q2 q3
      go_wp2_with (first
        | (go_at_call 18; (with_reducible refine (((F1 _ HB4.out).out).mono ?_)); rintro e w6 ⟨hb6, b1, rfl, hr1⟩; have HB6 := Lib.hid (below_on HB4.out hb6); have q6 := HX.out _ HB6.out; have G1 := (S1 v1 e1 b1 _ HB6.out (Z1.out.on hb6) hr1).out)
        | (go_at_call 21; (with_reducible refine (G1.mono ?_)); rintro e w7 ⟨rfl, hb7⟩; have HB7 := Lib.hid (below_on HB6.out hb7); have q7 := HX.out _ HB7.out)
        | (go_at_call 18; (with_reducible refine (((F2 _ HB7.out).out).mono ?_)); rintro e w8 ⟨hb8, b2, rfl, hr2⟩; have HB8 := Lib.hid (below_on HB7.out hb8); have q8 := HX.out _ HB8.out; have G2 := (S2 v2 e2 b2 _ HB8.out (((Z2.out.on hb6).on hb7).on hb8) hr2).out)
        | (go_at_call 21; (with_reducible refine (G2.mono ?_)); rintro e w9 ⟨rfl, hb9⟩))
      go_ret
      exact ⟨rfl, below_on HB.out (below_on HB8.out hb9)⟩
    · have C1 := fun W (h : Below w1.heap.size w1 W) => Lib.hid (Find_bad ra n c f sum W (HR.out.on h) hn hg)
      have C2 := fun W (h : Below w1.heap.size w1 W) => Lib.hid (Zero_bad ra n c f W (HR.out.on h) hn hg)
      have q : (givE n f != 0) = true := by simpa using hg
      generalize givE n f = er at *
      clear hlong hg
      go_enter Tryd.func4, Tryd.ntmps4
      go_upto_region 1 with fail
      rw [← hxb, ← hw1]
      clear hxb hw1
      go_wp2_with (first
        | (go_at_call 9; (with_reducible refine ((CA.out).mono ?_)); rintro e w2 ⟨rfl, hb2⟩; have q2 := HX.out _ hb2)
        | (go_at_call 10; (with_reducible refine (((CL _).out).mono ?_)); rintro e w3 ⟨rfl, rfl⟩)
        | (go_at_call 19; (with_reducible refine (((C1 _ hb2).out).mono ?_)); rintro e w3 ⟨hb3, rfl⟩; have HB3 := Lib.hid (below_on hb2 hb3); have q3 := HX.out _ HB3.out)
        | (go_at_call 20; (with_reducible refine (((C2 _ HB3.out).out).mono ?_)); rintro e w4 ⟨hb4, rfl⟩; have HB4 := Lib.hid (below_on HB3.out hb4); have q4 := HX.out _ HB4.out)
        | (go_at_call 13; (with_reducible refine (((CG _ HB4.out).out).mono ?_)); rintro e w5 ⟨rfl, rfl⟩))
      go_ret
      exact ⟨rfl, below_on HB.out HB4.out⟩
theorem finds_at (ra : Option Addr) (n c : Nat) (f : Nat → Int) (sum : Int) (w : World) (hd : DB w) (hr : IRow w ra n f) (hn : n ≤ 9223372036854775807) :
    Calls Tryd.prog 4 #[.slice ra n c, .int .i64 sum] w fun e w' => e = .returned (.bool true) ∧ Below w.heap.size w w' :=
  lawFinds_any ra n c f sum w hr hd hn
end Go.Proofs.YtlgpckjhnohhhaaDoor
