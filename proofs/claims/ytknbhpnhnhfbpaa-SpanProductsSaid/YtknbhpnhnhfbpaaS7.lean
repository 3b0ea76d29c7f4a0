/- Layer 3: the reference's sums, hulls and meetings. -/
import Derived.Test.YtknbhpnhnhfbpaaS1
import Derived.Test.YtknbhpnhnhfbpaaRRow
namespace Go.Proofs.Ytknbhpnhnhfbpaa
set_option linter.unusedVariables false
open Go.RowKit Go.Shelf

set_option maxHeartbeats 4000000 in
theorem rAdd_any (al ah bl bh : Int) (w : World) (va : SVd al ah) (vb : SVd bl bh) (n d e : Int) (h : fitS (al + bl) (ah + bh) = (n, d, e)) :
    Calls Try.prog 19 #[.agg #[.int .i64 al, .int .i64 ah], .agg #[.int .i64 bl, .int .i64 bh]] w fun r w' => r = .returned (.tuple #[.agg #[.int .i64 n, .int .i64 d], .int .i64 e]) ∧ Below w.heap.size w w' := by
  obtain ⟨va1, va2, va3⟩ := va
  obtain ⟨vb1, vb2, vb3⟩ := vb
  have CP := fun w => Lib.hid (Fits_s (al + bl) (ah + bh) w n d e h)
  clear h
  go_enter Try.func19, Try.ntmps19
  go_wp2_with (first
    | (go_at_call 46; (with_reducible refine ((CP _).out).mono ?_); rintro e w1 ⟨rfl, hb1⟩; obtain ⟨B1, hc1, hf1, p1, q1, r1, z1⟩ := after3 (a := w) hb1 (by go_grown) (by go_size); clear hb1))
  have k0 : w1.cell? ⟨w.heap.size + 2, 0, none⟩ = some (.int .i64 0) := (hc1 _ _ (by go_size)).trans (by simp [go_sem])
  have k1 : w1.cell? ⟨w.heap.size + 2, 1, none⟩ = some (.int .i64 0) := (hc1 _ _ (by go_size)).trans (by simp [go_sem])
  refine bodyPost_ret (by simp [results, Try.results19, go_sem, k0, k1]; try rfl) rfl ?_
  exact ⟨rfl, by go_grown⟩

set_option maxHeartbeats 4000000 in
theorem rSub_any (al ah bl bh : Int) (w : World) (va : SVd al ah) (vb : SVd bl bh) (n d e : Int) (h : fitS (al - bh) (ah - bl) = (n, d, e)) :
    Calls Try.prog 20 #[.agg #[.int .i64 al, .int .i64 ah], .agg #[.int .i64 bl, .int .i64 bh]] w fun r w' => r = .returned (.tuple #[.agg #[.int .i64 n, .int .i64 d], .int .i64 e]) ∧ Below w.heap.size w w' := by
  obtain ⟨va1, va2, va3⟩ := va
  obtain ⟨vb1, vb2, vb3⟩ := vb
  have CP := fun w => Lib.hid (Fits_s (al - bh) (ah - bl) w n d e h)
  clear h
  go_enter Try.func20, Try.ntmps20
  go_wp2_with (first
    | (go_at_call 46; (with_reducible refine ((CP _).out).mono ?_); rintro e w1 ⟨rfl, hb1⟩; obtain ⟨B1, hc1, hf1, p1, q1, r1, z1⟩ := after3 (a := w) hb1 (by go_grown) (by go_size); clear hb1))
  have k0 : w1.cell? ⟨w.heap.size + 2, 0, none⟩ = some (.int .i64 0) := (hc1 _ _ (by go_size)).trans (by simp [go_sem])
  have k1 : w1.cell? ⟨w.heap.size + 2, 1, none⟩ = some (.int .i64 0) := (hc1 _ _ (by go_size)).trans (by simp [go_sem])
  refine bodyPost_ret (by simp [results, Try.results20, go_sem, k0, k1]; try rfl) rfl ?_
  exact ⟨rfl, by go_grown⟩

/-- Least of a list, from a first one. -/
def leastL : List Int → Int
  | [] => 0
  | x :: r => r.foldl min x

set_option maxHeartbeats 4000000 in
theorem least_any (l : List Int) (w : World) (b : Nat) (h0 : 0 < l.length) (h4 : l.length ≤ 4) (hc : Row w b (l.map fun x => Value.int .i64 x)) :
    Calls Try.prog 48 #[.slice (some ⟨b, 0, none⟩) l.length l.length] w fun e w' => e = .returned (.int .i64 (leastL l)) ∧ w = w' := by
  have hcell : ∀ k (h : k < l.length), w.cell? ⟨b, k, none⟩ = some (.int .i64 l[k]) := fun k h => by
    have := hc.2 k (by simpa using h)
    simpa using this
  have HC := Lib.hid hcell
  clear hc hcell
  obtain ⟨m, hm⟩ : ∃ m, leastL l = m := ⟨_, rfl⟩
  rw [hm]
  have R0 : Hid ((l.drop 1).foldl min l[0] = m) := by
    cases l with
    | nil => exact absurd h0 (by simp)
    | cons x r => exact hm
  clear hm
  have c0 := HC.out 0 h0
  generalize l[0] = x0 at *
  go_enter Try.func48, Try.ntmps48
  go_wp2
  clear c0
  go_loop [3, 4] (fun s3 s4 => ∃ (k : Nat) (x : Int), s3 = .int .i64 x ∧ s4 = .int .i64 k ∧ 1 ≤ k ∧ k ≤ l.length ∧ Hid ((l.drop k).foldl min x = m)) (fun s3 s4 => (l.length - (intOf s4).toNat))
  case atStart => exact ⟨1, x0, rfl, rfl, by omega, by omega, R0⟩
  case round =>
    clear R0
    obtain ⟨k, x, rfl, rfl, k1, k2, R⟩ := hrel
    by_cases hlt : k < l.length
    · have hd := List.drop_eq_getElem_cons hlt
      have R2 := R.out
      rw [hd, List.foldl_cons] at R2
      have HR := Lib.hid R2
      have ck := HC.out k hlt
      clear hd R2 R
      generalize l[k] = y at *
      have wk : IntKind.i64.wrap ((k : Int) + 1) = ((k + 1 : Nat) : Int) := by rw [IntWalk.i64_in _ (by omega)]; omega
      by_cases c : y < x
      · have g : decide (y < x) = true := decide_eq_true c
        go_wp2
        go_round
        case rel => exact ⟨k + 1, y, rfl, rfl, by omega, by omega, by have h := HR.out; rw [show min x y = y by omega] at h; exact h⟩
        case measure => simp [intOf]; omega
      · have g : decide (y < x) = false := decide_eq_false c
        go_wp2
        go_round
        case rel => exact ⟨k + 1, x, rfl, rfl, by omega, by omega, by have h := HR.out; rw [show min x y = x by omega] at h; exact h⟩
        case measure => simp [intOf]; omega
    · have e : k = l.length := by omega
      subst e
      have R2 := R.out
      rw [List.drop_length] at R2
      have R3 : x = m := R2
      subst R3
      clear R R2
      go_wp2
      go_ret
      exact ⟨rfl, rfl⟩

/-- Greatest of a list, from a first one. -/
def greatL : List Int → Int
  | [] => 0
  | x :: r => r.foldl max x

set_option maxHeartbeats 4000000 in
theorem great_any (l : List Int) (w : World) (b : Nat) (h0 : 0 < l.length) (h4 : l.length ≤ 4) (hc : Row w b (l.map fun x => Value.int .i64 x)) :
    Calls Try.prog 47 #[.slice (some ⟨b, 0, none⟩) l.length l.length] w fun e w' => e = .returned (.int .i64 (greatL l)) ∧ w = w' := by
  have hcell : ∀ k (h : k < l.length), w.cell? ⟨b, k, none⟩ = some (.int .i64 l[k]) := fun k h => by
    have := hc.2 k (by simpa using h)
    simpa using this
  have HC := Lib.hid hcell
  clear hc hcell
  obtain ⟨m, hm⟩ : ∃ m, greatL l = m := ⟨_, rfl⟩
  rw [hm]
  have R0 : Hid ((l.drop 1).foldl max l[0] = m) := by
    cases l with
    | nil => exact absurd h0 (by simp)
    | cons x r => exact hm
  clear hm
  have c0 := HC.out 0 h0
  generalize l[0] = x0 at *
  go_enter Try.func47, Try.ntmps47
  go_wp2
  clear c0
  go_loop [3, 4] (fun s3 s4 => ∃ (k : Nat) (x : Int), s3 = .int .i64 x ∧ s4 = .int .i64 k ∧ 1 ≤ k ∧ k ≤ l.length ∧ Hid ((l.drop k).foldl max x = m)) (fun s3 s4 => (l.length - (intOf s4).toNat))
  case atStart => exact ⟨1, x0, rfl, rfl, by omega, by omega, R0⟩
  case round =>
    clear R0
    obtain ⟨k, x, rfl, rfl, k1, k2, R⟩ := hrel
    by_cases hlt : k < l.length
    · have hd := List.drop_eq_getElem_cons hlt
      have R2 := R.out
      rw [hd, List.foldl_cons] at R2
      have HR := Lib.hid R2
      have ck := HC.out k hlt
      clear hd R2 R
      generalize l[k] = y at *
      have wk : IntKind.i64.wrap ((k : Int) + 1) = ((k + 1 : Nat) : Int) := by rw [IntWalk.i64_in _ (by omega)]; omega
      by_cases c : x < y
      · have g : decide (x < y) = true := decide_eq_true c
        go_wp2
        go_round
        case rel => exact ⟨k + 1, y, rfl, rfl, by omega, by omega, by have h := HR.out; rw [show max x y = y by omega] at h; exact h⟩
        case measure => simp [intOf]; omega
      · have g : decide (x < y) = false := decide_eq_false c
        go_wp2
        go_round
        case rel => exact ⟨k + 1, x, rfl, rfl, by omega, by omega, by have h := HR.out; rw [show max x y = x by omega] at h; exact h⟩
        case measure => simp [intOf]; omega
    · have e : k = l.length := by omega
      subst e
      have R2 := R.out
      rw [List.drop_length] at R2
      have R3 : x = m := R2
      subst R3
      clear R R2
      go_wp2
      go_ret
      exact ⟨rfl, rfl⟩

theorem least2 (x y : Int) (w : World) (b : Nat) (hc : Row w b [.int .i64 x, .int .i64 y]) : Hid (Calls Try.prog 48 #[.slice (some ⟨b, 0, none⟩) 2 2] w fun e w' => e = .returned (.int .i64 (min x y)) ∧ w = w') :=
  least_any [x, y] w b (by simp) (by simp) hc

theorem great2 (x y : Int) (w : World) (b : Nat) (hc : Row w b [.int .i64 x, .int .i64 y]) : Hid (Calls Try.prog 47 #[.slice (some ⟨b, 0, none⟩) 2 2] w fun e w' => e = .returned (.int .i64 (max x y)) ∧ w = w') :=
  great_any [x, y] w b (by simp) (by simp) hc

theorem sargs (w : World) (al ah bl bh : Int) (W : World) (hW : W = ((w.alloc (Obj.cells #[Value.int IntKind.i64 al, Value.int IntKind.i64 ah] 23)).alloc (Obj.cells #[Value.int IntKind.i64 bl, Value.int IntKind.i64 bh] 23)).alloc (Obj.cells #[Value.int IntKind.i64 0, Value.int IntKind.i64 0] 23)) :
    Hid (Blk W w.heap.size (.int .i64 al) (.int .i64 ah)) ∧ Hid (Blk W (w.heap.size + 1) (.int .i64 bl) (.int .i64 bh)) ∧ Hid (Blk W (w.heap.size + 1 + 1) (.int .i64 0) (.int .i64 0)) ∧ Hid (Frz W (w.heap.size + 1 + 1)) ∧ Hid (Below w.heap.size w W) := by
  subst hW
  refine ⟨?_, ?_, ?_, ?_, Lib.hid (show Below w.heap.size w _ from (by repeat' (first | (with_reducible exact Below.refl _ _) | (with_reducible assumption) | (with_reducible refine Below.alloc ?_ ?_ _) | (with_reducible refine below_drew ?_ _) | (with_reducible refine Below.drew ?_) | (with_reducible refine Below.setCell ?_ ?_ _) | go_size)))⟩
  · exact ((Blk.new _ _ _ _).alloc _).alloc _
  · have h := (Blk.new (w.alloc (Obj.cells #[Value.int IntKind.i64 al, Value.int IntKind.i64 ah] 23)) (.int .i64 bl) (.int .i64 bh) 23).alloc (Obj.cells #[Value.int IntKind.i64 0, Value.int IntKind.i64 0] 23)
    simpa [Hid] using h
  · have h := Blk.new ((w.alloc (Obj.cells #[Value.int IntKind.i64 al, Value.int IntKind.i64 ah] 23)).alloc (Obj.cells #[Value.int IntKind.i64 bl, Value.int IntKind.i64 bh] 23)) (.int .i64 0) (.int .i64 0) 23
    simpa [Hid] using h
  · have h := Frz.new ((w.alloc (Obj.cells #[Value.int IntKind.i64 al, Value.int IntKind.i64 ah] 23)).alloc (Obj.cells #[Value.int IntKind.i64 bl, Value.int IntKind.i64 bh] 23)) (.int .i64 0) (.int .i64 0) 23
    simpa [Hid] using h

structure SHull1R (w : World) (al ah bl bh : Int) (Wc : World) (L : Nat → Bool) (v : Nat → Value) (g : Nat → Nat) (W : World) : Prop where
  st : L 13 = false → Below Wc.heap.size Wc W
  sr : Had L 13 (∃ W2, Below Wc.heap.size Wc W2 ∧ W = (W2.setCell ⟨w.heap.size + 1 + 1, 0, none⟩ (.int .i64 (min al bl))).setCell ⟨w.heap.size + 1 + 1, 1, none⟩ (.int .i64 (max ah bh)))
  ar : Had L 13 (∀ j ∈ [0, 1, 2, 3, 4, 5, 6, 7, 8, 9, 10, 11, 12], L j = true)
  f0 : Had L 0 (v 5 = .pointer (some ⟨w.heap.size, 0, none⟩))
  f1 : Had L 1 (v 6 = .int .i64 al)
  f2 : Had L 2 (v 7 = .pointer (some ⟨w.heap.size + 1, 0, none⟩))
  f3 : Had L 3 (v 8 = .int .i64 bl)
  f4 : Had L 4 (v 9 = .slice (some ⟨g 4, 0, none⟩) 2 2)
  f5 : Had L 5 (v 10 = .int .i64 (min al bl))
  f6 : Had L 6 (v 11 = .pointer (some ⟨w.heap.size, 1, none⟩))
  f7 : Had L 7 (v 12 = .int .i64 ah)
  f8 : Had L 8 (v 13 = .pointer (some ⟨w.heap.size + 1, 1, none⟩))
  f9 : Had L 9 (v 14 = .int .i64 bh)
  f10 : Had L 10 (v 15 = .slice (some ⟨g 10, 0, none⟩) 2 2)
  f11 : Had L 11 (v 16 = .int .i64 (max ah bh))
  f12 : Had L 12 (v 17 = .agg #[.int .i64 (min al bl), .int .i64 (max ah bh)])
  b4 : Had L 4 (Wc.heap.size ≤ g 4 ∧ Row W (g 4) [.int .i64 al, .int .i64 bl])
  b10 : Had L 10 (Wc.heap.size ≤ g 10 ∧ Row W (g 10) [.int .i64 ah, .int .i64 bh])
  n4_10 : Had2 L 4 10 (g 4 ≠ g 10)

set_option maxRecDepth 100000 in
set_option maxHeartbeats 8000000 in
theorem rHull_any (al ah bl bh : Int) (w : World) :
    Calls Try.prog 22 #[.agg #[.int .i64 al, .int .i64 ah], .agg #[.int .i64 bl, .int .i64 bh]] w fun e w' => e = .returned (.agg #[.int .i64 (min al bl), .int .i64 (max ah bh)]) ∧ Below w.heap.size w w' := by
  go_enter Try.func22, Try.ntmps22
  go_upto_region 1 with fail
  obtain ⟨W0, hW0⟩ : ∃ W0, W0 = ((w.alloc (Obj.cells #[Value.int IntKind.i64 al, Value.int IntKind.i64 ah] 23)).alloc (Obj.cells #[Value.int IntKind.i64 bl, Value.int IntKind.i64 bh] 23)).alloc (Obj.cells #[Value.int IntKind.i64 0, Value.int IntKind.i64 0] 23) := ⟨_, rfl⟩
  rw [← hW0]
  obtain ⟨HA, HB, HR, HF, HW⟩ := sargs w al ah bl bh W0 hW0
  clear hW0
  refine wp_region_each (fun L A W => ∃ (v : Nat → Value) (g : Nat → Nat), A = ⟨#[.agg #[.int .i64 al, .int .i64 ah], .agg #[.int .i64 bl, .int .i64 bh], .pointer (some ⟨w.heap.size, 0, none⟩), .pointer (some ⟨w.heap.size + 1, 0, none⟩), .pointer (some ⟨w.heap.size + 1 + 1, 0, none⟩), v 5, v 6, v 7, v 8, v 9, v 10, v 11, v 12, v 13, v 14, v 15, v 16, v 17], []⟩ ∧ SHull1R w al ah bl bh W0 L v g W) (by kernel_rfl) (by kernel_rfl) ⟨fun _ => undef, fun _ => 0, rfl, ⟨(fun _ => Below.drew (Below.refl _ _)), Had.none, Had.none, Had.none, Had.none, Had.none, Had.none, Had.none, Had.none, Had.none, Had.none, Had.none, Had.none, Had.none, Had.none, Had.none, Had.none, Had.none, (fun h => by cases h)⟩⟩ (rs := [0, 1, 2, 3, 4, 5, 6, 7, 8, 9, 10, 11, 12, 13]) (by kernel_rfl) ?_ ?_
  · refine EachOf.cons [] rfl (by kernel_rfl) ?_ ?_
    · rintro L A W ⟨v, g, rfl, hR⟩ hi hw K hK
      have hk : L 13 = false := hR.ar.not hi rfl
      go_simp
      refine hK.out _ _ ?_
      exact ⟨(fun j => if j = 5 then .pointer (some ⟨w.heap.size, 0, none⟩) else v j), g, rfl, ⟨(fun h => hR.st (upd_false h)), hR.sr.keep rfl, hR.ar.keepM rfl (fun h j hj => upd_on (h j hj)), (fun _ => rfl), hR.f1.keep rfl, hR.f2.keep rfl, hR.f3.keep rfl, hR.f4.keep rfl, hR.f5.keep rfl, hR.f6.keep rfl, hR.f7.keep rfl, hR.f8.keep rfl, hR.f9.keep rfl, hR.f10.keep rfl, hR.f11.keep rfl, hR.f12.keep rfl, hR.b4.keep rfl, hR.b10.keep rfl, hR.n4_10.keep rfl rfl⟩⟩
    refine EachOf.cons [0] rfl (by kernel_rfl) ?_ ?_
    · rintro L A W ⟨v, g, rfl, hR⟩ hi hw K hK
      have hk : L 13 = false := hR.ar.not hi rfl
      have e0 := hR.f0 (hw 0 (by simp))
      simp only [e0]
      clear e0
      obtain ⟨_, q0, q1⟩ := HA.out.on (hR.st hk)
      go_simp
      refine hK.out _ _ ?_
      exact ⟨(fun j => if j = 5 then .pointer (some ⟨w.heap.size, 0, none⟩) else if j = 6 then .int .i64 al else v j), g, rfl, ⟨(fun h => hR.st (upd_false h)), hR.sr.keep rfl, hR.ar.keepM rfl (fun h j hj => upd_on (h j hj)), (fun _ => rfl), (fun _ => rfl), hR.f2.keep rfl, hR.f3.keep rfl, hR.f4.keep rfl, hR.f5.keep rfl, hR.f6.keep rfl, hR.f7.keep rfl, hR.f8.keep rfl, hR.f9.keep rfl, hR.f10.keep rfl, hR.f11.keep rfl, hR.f12.keep rfl, hR.b4.keep rfl, hR.b10.keep rfl, hR.n4_10.keep rfl rfl⟩⟩
    refine EachOf.cons [] rfl (by kernel_rfl) ?_ ?_
    · rintro L A W ⟨v, g, rfl, hR⟩ hi hw K hK
      have hk : L 13 = false := hR.ar.not hi rfl
      go_simp
      refine hK.out _ _ ?_
      exact ⟨(fun j => if j = 7 then .pointer (some ⟨w.heap.size + 1, 0, none⟩) else v j), g, rfl, ⟨(fun h => hR.st (upd_false h)), hR.sr.keep rfl, hR.ar.keepM rfl (fun h j hj => upd_on (h j hj)), hR.f0.keep rfl, hR.f1.keep rfl, (fun _ => rfl), hR.f3.keep rfl, hR.f4.keep rfl, hR.f5.keep rfl, hR.f6.keep rfl, hR.f7.keep rfl, hR.f8.keep rfl, hR.f9.keep rfl, hR.f10.keep rfl, hR.f11.keep rfl, hR.f12.keep rfl, hR.b4.keep rfl, hR.b10.keep rfl, hR.n4_10.keep rfl rfl⟩⟩
    refine EachOf.cons [2] rfl (by kernel_rfl) ?_ ?_
    · rintro L A W ⟨v, g, rfl, hR⟩ hi hw K hK
      have hk : L 13 = false := hR.ar.not hi rfl
      have e2 := hR.f2 (hw 2 (by simp))
      simp only [e2]
      clear e2
      obtain ⟨_, q0, q1⟩ := HB.out.on (hR.st hk)
      go_simp
      refine hK.out _ _ ?_
      exact ⟨(fun j => if j = 7 then .pointer (some ⟨w.heap.size + 1, 0, none⟩) else if j = 8 then .int .i64 bl else v j), g, rfl, ⟨(fun h => hR.st (upd_false h)), hR.sr.keep rfl, hR.ar.keepM rfl (fun h j hj => upd_on (h j hj)), hR.f0.keep rfl, hR.f1.keep rfl, (fun _ => rfl), (fun _ => rfl), hR.f4.keep rfl, hR.f5.keep rfl, hR.f6.keep rfl, hR.f7.keep rfl, hR.f8.keep rfl, hR.f9.keep rfl, hR.f10.keep rfl, hR.f11.keep rfl, hR.f12.keep rfl, hR.b4.keep rfl, hR.b10.keep rfl, hR.n4_10.keep rfl rfl⟩⟩
    refine EachOf.cons [1, 3] rfl (by kernel_rfl) ?_ ?_
    · rintro L A W ⟨v, g, rfl, hR⟩ hi hw K hK
      have hk : L 13 = false := hR.ar.not hi rfl
      have e1 := hR.f1 (hw 1 (by simp))
      have e3 := hR.f3 (hw 3 (by simp))
      simp only [e1, e3]
      clear e1 e3
      have hz := (hR.st hk).size
      go_simp
      refine hK.out _ _ ?_
      have hb : Below W.heap.size W (W.alloc (Obj.cells #[Value.int .i64 al, Value.int .i64 bl] 3)) := (Below.refl _ _).alloc (Nat.le_refl _) _
      have hrow : Row (W.alloc (Obj.cells #[Value.int .i64 al, Value.int .i64 bl] 3)) W.heap.size [.int .i64 al, .int .i64 bl] := row2 _ _ _ _
      exact ⟨(fun j => if j = 6 then .int .i64 al else if j = 8 then .int .i64 bl else if j = 9 then .slice (some ⟨W.heap.size, 0, none⟩) 2 2 else v j), (fun j => if j = 4 then W.heap.size else g j), rfl, ⟨(fun _ => below_on (hR.st hk) hb), (fun h => absurd (upd_back h rfl) (by simp [hk])), hR.ar.keepM rfl (fun h j hj => upd_on (h j hj)), hR.f0.keep rfl, (fun _ => rfl), hR.f2.keep rfl, (fun _ => rfl), (fun _ => rfl), hR.f5.keep rfl, hR.f6.keep rfl, hR.f7.keep rfl, hR.f8.keep rfl, hR.f9.keep rfl, hR.f10.keep rfl, hR.f11.keep rfl, hR.f12.keep rfl, (fun _ => ⟨hz, hrow⟩), hR.b10.keepM rfl (fun h => ⟨h.1, h.2.on hb⟩), (fun _ h => by have h1 := (hR.b10 (upd_back h rfl)).2.1; exact Nat.ne_of_gt h1)⟩⟩
    refine EachOf.cons [4] rfl (by kernel_rfl) ?_ ?_
    · rintro L A W ⟨v, g, rfl, hR⟩ hi hw K hK
      have hk : L 13 = false := hR.ar.not hi rfl
      have e4 := hR.f4 (hw 4 (by simp))
      simp only [e4]
      clear e4
      have hrw := (hR.b4 (hw 4 (by simp))).2
      go_simp
      go_at_call 48
      (with_reducible refine ((least2 al bl _ _ hrw).out).mono ?_)
      rintro e w2 ⟨rfl, rfl⟩
      go_simp
      refine hK.out _ _ ?_
      exact ⟨(fun j => if j = 9 then .slice (some ⟨g 4, 0, none⟩) 2 2 else if j = 10 then .int .i64 (min al bl) else v j), g, rfl, ⟨(fun h => hR.st (upd_false h)), hR.sr.keep rfl, hR.ar.keepM rfl (fun h j hj => upd_on (h j hj)), hR.f0.keep rfl, hR.f1.keep rfl, hR.f2.keep rfl, hR.f3.keep rfl, (fun _ => rfl), (fun _ => rfl), hR.f6.keep rfl, hR.f7.keep rfl, hR.f8.keep rfl, hR.f9.keep rfl, hR.f10.keep rfl, hR.f11.keep rfl, hR.f12.keep rfl, hR.b4.keep rfl, hR.b10.keep rfl, hR.n4_10.keep rfl rfl⟩⟩
    refine EachOf.cons [] rfl (by kernel_rfl) ?_ ?_
    · rintro L A W ⟨v, g, rfl, hR⟩ hi hw K hK
      have hk : L 13 = false := hR.ar.not hi rfl
      go_simp
      refine hK.out _ _ ?_
      exact ⟨(fun j => if j = 11 then .pointer (some ⟨w.heap.size, 1, none⟩) else v j), g, rfl, ⟨(fun h => hR.st (upd_false h)), hR.sr.keep rfl, hR.ar.keepM rfl (fun h j hj => upd_on (h j hj)), hR.f0.keep rfl, hR.f1.keep rfl, hR.f2.keep rfl, hR.f3.keep rfl, hR.f4.keep rfl, hR.f5.keep rfl, (fun _ => rfl), hR.f7.keep rfl, hR.f8.keep rfl, hR.f9.keep rfl, hR.f10.keep rfl, hR.f11.keep rfl, hR.f12.keep rfl, hR.b4.keep rfl, hR.b10.keep rfl, hR.n4_10.keep rfl rfl⟩⟩
    refine EachOf.cons [6] rfl (by kernel_rfl) ?_ ?_
    · rintro L A W ⟨v, g, rfl, hR⟩ hi hw K hK
      have hk : L 13 = false := hR.ar.not hi rfl
      have e6 := hR.f6 (hw 6 (by simp))
      simp only [e6]
      clear e6
      obtain ⟨_, q0, q1⟩ := HA.out.on (hR.st hk)
      go_simp
      refine hK.out _ _ ?_
      exact ⟨(fun j => if j = 11 then .pointer (some ⟨w.heap.size, 1, none⟩) else if j = 12 then .int .i64 ah else v j), g, rfl, ⟨(fun h => hR.st (upd_false h)), hR.sr.keep rfl, hR.ar.keepM rfl (fun h j hj => upd_on (h j hj)), hR.f0.keep rfl, hR.f1.keep rfl, hR.f2.keep rfl, hR.f3.keep rfl, hR.f4.keep rfl, hR.f5.keep rfl, (fun _ => rfl), (fun _ => rfl), hR.f8.keep rfl, hR.f9.keep rfl, hR.f10.keep rfl, hR.f11.keep rfl, hR.f12.keep rfl, hR.b4.keep rfl, hR.b10.keep rfl, hR.n4_10.keep rfl rfl⟩⟩
    refine EachOf.cons [] rfl (by kernel_rfl) ?_ ?_
    · rintro L A W ⟨v, g, rfl, hR⟩ hi hw K hK
      have hk : L 13 = false := hR.ar.not hi rfl
      go_simp
      refine hK.out _ _ ?_
      exact ⟨(fun j => if j = 13 then .pointer (some ⟨w.heap.size + 1, 1, none⟩) else v j), g, rfl, ⟨(fun h => hR.st (upd_false h)), hR.sr.keep rfl, hR.ar.keepM rfl (fun h j hj => upd_on (h j hj)), hR.f0.keep rfl, hR.f1.keep rfl, hR.f2.keep rfl, hR.f3.keep rfl, hR.f4.keep rfl, hR.f5.keep rfl, hR.f6.keep rfl, hR.f7.keep rfl, (fun _ => rfl), hR.f9.keep rfl, hR.f10.keep rfl, hR.f11.keep rfl, hR.f12.keep rfl, hR.b4.keep rfl, hR.b10.keep rfl, hR.n4_10.keep rfl rfl⟩⟩
    refine EachOf.cons [8] rfl (by kernel_rfl) ?_ ?_
    · rintro L A W ⟨v, g, rfl, hR⟩ hi hw K hK
      have hk : L 13 = false := hR.ar.not hi rfl
      have e8 := hR.f8 (hw 8 (by simp))
      simp only [e8]
      clear e8
      obtain ⟨_, q0, q1⟩ := HB.out.on (hR.st hk)
      go_simp
      refine hK.out _ _ ?_
      exact ⟨(fun j => if j = 13 then .pointer (some ⟨w.heap.size + 1, 1, none⟩) else if j = 14 then .int .i64 bh else v j), g, rfl, ⟨(fun h => hR.st (upd_false h)), hR.sr.keep rfl, hR.ar.keepM rfl (fun h j hj => upd_on (h j hj)), hR.f0.keep rfl, hR.f1.keep rfl, hR.f2.keep rfl, hR.f3.keep rfl, hR.f4.keep rfl, hR.f5.keep rfl, hR.f6.keep rfl, hR.f7.keep rfl, (fun _ => rfl), (fun _ => rfl), hR.f10.keep rfl, hR.f11.keep rfl, hR.f12.keep rfl, hR.b4.keep rfl, hR.b10.keep rfl, hR.n4_10.keep rfl rfl⟩⟩
    refine EachOf.cons [7, 9] rfl (by kernel_rfl) ?_ ?_
    · rintro L A W ⟨v, g, rfl, hR⟩ hi hw K hK
      have hk : L 13 = false := hR.ar.not hi rfl
      have e7 := hR.f7 (hw 7 (by simp))
      have e9 := hR.f9 (hw 9 (by simp))
      simp only [e7, e9]
      clear e7 e9
      have hz := (hR.st hk).size
      go_simp
      refine hK.out _ _ ?_
      have hb : Below W.heap.size W (W.alloc (Obj.cells #[Value.int .i64 ah, Value.int .i64 bh] 3)) := (Below.refl _ _).alloc (Nat.le_refl _) _
      have hrow : Row (W.alloc (Obj.cells #[Value.int .i64 ah, Value.int .i64 bh] 3)) W.heap.size [.int .i64 ah, .int .i64 bh] := row2 _ _ _ _
      exact ⟨(fun j => if j = 12 then .int .i64 ah else if j = 14 then .int .i64 bh else if j = 15 then .slice (some ⟨W.heap.size, 0, none⟩) 2 2 else v j), (fun j => if j = 10 then W.heap.size else g j), rfl, ⟨(fun _ => below_on (hR.st hk) hb), (fun h => absurd (upd_back h rfl) (by simp [hk])), hR.ar.keepM rfl (fun h j hj => upd_on (h j hj)), hR.f0.keep rfl, hR.f1.keep rfl, hR.f2.keep rfl, hR.f3.keep rfl, hR.f4.keep rfl, hR.f5.keep rfl, hR.f6.keep rfl, (fun _ => rfl), hR.f8.keep rfl, (fun _ => rfl), (fun _ => rfl), hR.f11.keep rfl, hR.f12.keep rfl, hR.b4.keepM rfl (fun h => ⟨h.1, h.2.on hb⟩), (fun _ => ⟨hz, hrow⟩), (fun h _ => by have h1 := (hR.b4 (upd_back h rfl)).2.1; exact Nat.ne_of_lt h1)⟩⟩
    refine EachOf.cons [10] rfl (by kernel_rfl) ?_ ?_
    · rintro L A W ⟨v, g, rfl, hR⟩ hi hw K hK
      have hk : L 13 = false := hR.ar.not hi rfl
      have e10 := hR.f10 (hw 10 (by simp))
      simp only [e10]
      clear e10
      have hrw := (hR.b10 (hw 10 (by simp))).2
      go_simp
      go_at_call 47
      (with_reducible refine ((great2 ah bh _ _ hrw).out).mono ?_)
      rintro e w2 ⟨rfl, rfl⟩
      go_simp
      refine hK.out _ _ ?_
      exact ⟨(fun j => if j = 15 then .slice (some ⟨g 10, 0, none⟩) 2 2 else if j = 16 then .int .i64 (max ah bh) else v j), g, rfl, ⟨(fun h => hR.st (upd_false h)), hR.sr.keep rfl, hR.ar.keepM rfl (fun h j hj => upd_on (h j hj)), hR.f0.keep rfl, hR.f1.keep rfl, hR.f2.keep rfl, hR.f3.keep rfl, hR.f4.keep rfl, hR.f5.keep rfl, hR.f6.keep rfl, hR.f7.keep rfl, hR.f8.keep rfl, hR.f9.keep rfl, (fun _ => rfl), (fun _ => rfl), hR.f12.keep rfl, hR.b4.keep rfl, hR.b10.keep rfl, hR.n4_10.keep rfl rfl⟩⟩
    refine EachOf.cons [5, 11] rfl (by kernel_rfl) ?_ ?_
    · rintro L A W ⟨v, g, rfl, hR⟩ hi hw K hK
      have hk : L 13 = false := hR.ar.not hi rfl
      have e5 := hR.f5 (hw 5 (by simp))
      have e11 := hR.f11 (hw 11 (by simp))
      simp only [e5, e11]
      clear e5 e11
      go_simp
      refine hK.out _ _ ?_
      exact ⟨(fun j => if j = 10 then .int .i64 (min al bl) else if j = 16 then .int .i64 (max ah bh) else if j = 17 then .agg #[.int .i64 (min al bl), .int .i64 (max ah bh)] else v j), g, rfl, ⟨(fun h => hR.st (upd_false h)), hR.sr.keep rfl, hR.ar.keepM rfl (fun h j hj => upd_on (h j hj)), hR.f0.keep rfl, hR.f1.keep rfl, hR.f2.keep rfl, hR.f3.keep rfl, hR.f4.keep rfl, (fun _ => rfl), hR.f6.keep rfl, hR.f7.keep rfl, hR.f8.keep rfl, hR.f9.keep rfl, hR.f10.keep rfl, (fun _ => rfl), (fun _ => rfl), hR.b4.keep rfl, hR.b10.keep rfl, hR.n4_10.keep rfl rfl⟩⟩
    refine EachOf.cons [0, 1, 2, 3, 4, 5, 6, 7, 8, 9, 10, 11, 12] rfl (by kernel_rfl) ?_ ?_
    · rintro L A W ⟨v, g, rfl, hR⟩ hi hw K hK
      have e12 := hR.f12 (hw 12 (by simp))
      simp only [e12]
      clear e12
      obtain ⟨l5, p5, q5⟩ := HR.out.on (hR.st hi)
      obtain ⟨r5, s5⟩ := HF.out.on HR.out.1 (hR.st hi)
      go_simp
      refine hK.out _ _ ?_
      exact ⟨(fun j => if j = 17 then .agg #[.int .i64 (min al bl), .int .i64 (max ah bh)] else v j), g, rfl, ⟨(fun h => by simp [upd_self] at h), (fun _ => ⟨W, hR.st hi, rfl⟩), (fun _ j hj => upd_on (hw j hj)), hR.f0.keep rfl, hR.f1.keep rfl, hR.f2.keep rfl, hR.f3.keep rfl, hR.f4.keep rfl, hR.f5.keep rfl, hR.f6.keep rfl, hR.f7.keep rfl, hR.f8.keep rfl, hR.f9.keep rfl, hR.f10.keep rfl, hR.f11.keep rfl, (fun _ => rfl), hR.b4.keepM rfl (fun h => ⟨h.1, h.2.far (by have h2 := HR.out.1; omega)⟩), hR.b10.keepM rfl (fun h => ⟨h.1, h.2.far (by have h2 := HR.out.1; omega)⟩), hR.n4_10.keep rfl rfl⟩⟩
    exact EachOf.nil
  rintro L A W1 ⟨v1, g1, rfl, hR⟩ hL
  obtain ⟨W1b, hb9, hw9⟩ := hR.sr (hL 13 (by simp))
  have hst := Lib.hid hb9
  clear hb9
  clear hR hL
  replace HF := Lib.hid (HF.out.on HR.out.1 hst.out)
  replace HA := Lib.hid (HA.out.on hst.out)
  replace HB := Lib.hid (HB.out.on hst.out)
  replace HR := Lib.hid (HR.out.on hst.out)
  replace HW := Lib.hid (below_on HW.out hst.out)
  subst hw9
  have hB := ((HW.out.setCell (p := ⟨w.heap.size + 1 + 1, 0, none⟩) (by simp; omega) (.int .i64 (min al bl))).setCell (p := ⟨w.heap.size + 1 + 1, 1, none⟩) (by simp; omega) (.int .i64 (max ah bh)))
  obtain ⟨_, r8, r9⟩ := Blk.set (x := .int .i64 (min al bl)) (y := .int .i64 (max ah bh)) HR.out
  go_wp2
  refine bodyPost_ret (by simp [results, Try.results22, go_sem, r8, r9]; try rfl) rfl ?_
  exact ⟨rfl, hB⟩

structure SMeet1R (w : World) (al ah bl bh : Int) (Wc : World) (L : Nat → Bool) (v : Nat → Value) (g : Nat → Nat) (W : World) : Prop where
  st : Below Wc.heap.size Wc W
  f0 : Had L 0 (v 7 = .pointer (some ⟨w.heap.size, 0, none⟩))
  f1 : Had L 1 (v 8 = .int .i64 al)
  f2 : Had L 2 (v 9 = .pointer (some ⟨w.heap.size + 1, 0, none⟩))
  f3 : Had L 3 (v 10 = .int .i64 bl)
  f4 : Had L 4 (v 11 = .slice (some ⟨g 4, 0, none⟩) 2 2)
  f5 : Had L 5 (v 12 = .int .i64 (max al bl))
  f6 : Had L 6 (v 13 = .pointer (some ⟨w.heap.size, 1, none⟩))
  f7 : Had L 7 (v 14 = .int .i64 ah)
  f8 : Had L 8 (v 15 = .pointer (some ⟨w.heap.size + 1, 1, none⟩))
  f9 : Had L 9 (v 16 = .int .i64 bh)
  f10 : Had L 10 (v 17 = .slice (some ⟨g 10, 0, none⟩) 2 2)
  f11 : Had L 11 (v 18 = .int .i64 (min ah bh))
  f12 : Had L 12 (v 19 = .agg #[.int .i64 (max al bl), .int .i64 (min ah bh)])
  f13 : Had L 13 (v 6 = .pointer (some ⟨g 13, 0, none⟩))
  b4 : Had L 4 (Wc.heap.size ≤ g 4 ∧ Row W (g 4) [.int .i64 al, .int .i64 bl])
  b10 : Had L 10 (Wc.heap.size ≤ g 10 ∧ Row W (g 10) [.int .i64 ah, .int .i64 bh])
  b13 : Had L 13 (Own Wc.heap.size W (g 13))
  n4_10 : Had2 L 4 10 (g 4 ≠ g 10)
  n4_13 : Had2 L 4 13 (g 4 ≠ g 13)
  n10_13 : Had2 L 10 13 (g 10 ≠ g 13)
  c14 : Had L 14 (L 13 = true ∧ Blk W (g 13) (.int .i64 (max al bl)) (.int .i64 (min ah bh)))

set_option maxRecDepth 100000 in
set_option maxHeartbeats 8000000 in
theorem rMeet_any (al ah bl bh : Int) (w : World) (n d e : Int) (h : meetS al ah bl bh = (n, d, e)) :
    Calls Try.prog 21 #[.agg #[.int .i64 al, .int .i64 ah], .agg #[.int .i64 bl, .int .i64 bh]] w fun r w' => r = .returned (.tuple #[.agg #[.int .i64 n, .int .i64 d], .int .i64 e]) ∧ Below w.heap.size w w' := by
  go_enter Try.func21, Try.ntmps21
  go_upto_region 1 with fail
  obtain ⟨W0, hW0⟩ : ∃ W0, W0 = ((w.alloc (Obj.cells #[Value.int IntKind.i64 al, Value.int IntKind.i64 ah] 23)).alloc (Obj.cells #[Value.int IntKind.i64 bl, Value.int IntKind.i64 bh] 23)).alloc (Obj.cells #[Value.int IntKind.i64 0, Value.int IntKind.i64 0] 23) := ⟨_, rfl⟩
  rw [← hW0]
  obtain ⟨HA, HB, HR, HF, HW⟩ := sargs w al ah bl bh W0 hW0
  clear hW0
  refine wp_region_each (fun L A W => ∃ (v : Nat → Value) (g : Nat → Nat), A = ⟨#[.agg #[.int .i64 al, .int .i64 ah], .agg #[.int .i64 bl, .int .i64 bh], .pointer (some ⟨w.heap.size, 0, none⟩), .pointer (some ⟨w.heap.size + 1, 0, none⟩), .pointer (some ⟨w.heap.size + 1 + 1, 0, none⟩), .int .i64 0, v 6, v 7, v 8, v 9, v 10, v 11, v 12, v 13, v 14, v 15, v 16, v 17, v 18, v 19, undef, undef, undef, undef, undef, undef, undef], []⟩ ∧ SMeet1R w al ah bl bh W0 L v g W) (by kernel_rfl) (by kernel_rfl) ⟨fun _ => undef, fun _ => 0, rfl, ⟨Below.drew (Below.refl _ _), Had.none, Had.none, Had.none, Had.none, Had.none, Had.none, Had.none, Had.none, Had.none, Had.none, Had.none, Had.none, Had.none, Had.none, Had.none, Had.none, Had.none, (fun h => by cases h), (fun h => by cases h), (fun h => by cases h), Had.none⟩⟩ (rs := [0, 1, 2, 3, 4, 5, 6, 7, 8, 9, 10, 11, 12, 13, 14]) (by kernel_rfl) ?_ ?_
  · refine EachOf.cons [] rfl (by kernel_rfl) ?_ ?_
    · rintro L A W ⟨v, g, rfl, hR⟩ hi hw K hK
      go_simp
      refine hK.out _ _ ?_
      exact ⟨(fun j => if j = 7 then .pointer (some ⟨w.heap.size, 0, none⟩) else v j), g, rfl, ⟨hR.st, (fun _ => rfl), hR.f1.keep rfl, hR.f2.keep rfl, hR.f3.keep rfl, hR.f4.keep rfl, hR.f5.keep rfl, hR.f6.keep rfl, hR.f7.keep rfl, hR.f8.keep rfl, hR.f9.keep rfl, hR.f10.keep rfl, hR.f11.keep rfl, hR.f12.keep rfl, hR.f13.keep rfl, hR.b4.keep rfl, hR.b10.keep rfl, hR.b13.keep rfl, hR.n4_10.keep rfl rfl, hR.n4_13.keep rfl rfl, hR.n10_13.keep rfl rfl, hR.c14.keepM rfl (fun h => ⟨upd_on h.1, h.2⟩)⟩⟩
    refine EachOf.cons [0] rfl (by kernel_rfl) ?_ ?_
    · rintro L A W ⟨v, g, rfl, hR⟩ hi hw K hK
      have e0 := hR.f0 (hw 0 (by simp))
      simp only [e0]
      clear e0
      obtain ⟨_, q0, q1⟩ := HA.out.on hR.st
      go_simp
      refine hK.out _ _ ?_
      exact ⟨(fun j => if j = 7 then .pointer (some ⟨w.heap.size, 0, none⟩) else if j = 8 then .int .i64 al else v j), g, rfl, ⟨hR.st, (fun _ => rfl), (fun _ => rfl), hR.f2.keep rfl, hR.f3.keep rfl, hR.f4.keep rfl, hR.f5.keep rfl, hR.f6.keep rfl, hR.f7.keep rfl, hR.f8.keep rfl, hR.f9.keep rfl, hR.f10.keep rfl, hR.f11.keep rfl, hR.f12.keep rfl, hR.f13.keep rfl, hR.b4.keep rfl, hR.b10.keep rfl, hR.b13.keep rfl, hR.n4_10.keep rfl rfl, hR.n4_13.keep rfl rfl, hR.n10_13.keep rfl rfl, hR.c14.keepM rfl (fun h => ⟨upd_on h.1, h.2⟩)⟩⟩
    refine EachOf.cons [] rfl (by kernel_rfl) ?_ ?_
    · rintro L A W ⟨v, g, rfl, hR⟩ hi hw K hK
      go_simp
      refine hK.out _ _ ?_
      exact ⟨(fun j => if j = 9 then .pointer (some ⟨w.heap.size + 1, 0, none⟩) else v j), g, rfl, ⟨hR.st, hR.f0.keep rfl, hR.f1.keep rfl, (fun _ => rfl), hR.f3.keep rfl, hR.f4.keep rfl, hR.f5.keep rfl, hR.f6.keep rfl, hR.f7.keep rfl, hR.f8.keep rfl, hR.f9.keep rfl, hR.f10.keep rfl, hR.f11.keep rfl, hR.f12.keep rfl, hR.f13.keep rfl, hR.b4.keep rfl, hR.b10.keep rfl, hR.b13.keep rfl, hR.n4_10.keep rfl rfl, hR.n4_13.keep rfl rfl, hR.n10_13.keep rfl rfl, hR.c14.keepM rfl (fun h => ⟨upd_on h.1, h.2⟩)⟩⟩
    refine EachOf.cons [2] rfl (by kernel_rfl) ?_ ?_
    · rintro L A W ⟨v, g, rfl, hR⟩ hi hw K hK
      have e2 := hR.f2 (hw 2 (by simp))
      simp only [e2]
      clear e2
      obtain ⟨_, q0, q1⟩ := HB.out.on hR.st
      go_simp
      refine hK.out _ _ ?_
      exact ⟨(fun j => if j = 9 then .pointer (some ⟨w.heap.size + 1, 0, none⟩) else if j = 10 then .int .i64 bl else v j), g, rfl, ⟨hR.st, hR.f0.keep rfl, hR.f1.keep rfl, (fun _ => rfl), (fun _ => rfl), hR.f4.keep rfl, hR.f5.keep rfl, hR.f6.keep rfl, hR.f7.keep rfl, hR.f8.keep rfl, hR.f9.keep rfl, hR.f10.keep rfl, hR.f11.keep rfl, hR.f12.keep rfl, hR.f13.keep rfl, hR.b4.keep rfl, hR.b10.keep rfl, hR.b13.keep rfl, hR.n4_10.keep rfl rfl, hR.n4_13.keep rfl rfl, hR.n10_13.keep rfl rfl, hR.c14.keepM rfl (fun h => ⟨upd_on h.1, h.2⟩)⟩⟩
    refine EachOf.cons [1, 3] rfl (by kernel_rfl) ?_ ?_
    · rintro L A W ⟨v, g, rfl, hR⟩ hi hw K hK
      have e1 := hR.f1 (hw 1 (by simp))
      have e3 := hR.f3 (hw 3 (by simp))
      simp only [e1, e3]
      clear e1 e3
      have hz := hR.st.size
      go_simp
      refine hK.out _ _ ?_
      have hb : Below W.heap.size W (W.alloc (Obj.cells #[Value.int .i64 al, Value.int .i64 bl] 3)) := (Below.refl _ _).alloc (Nat.le_refl _) _
      have hrow : Row (W.alloc (Obj.cells #[Value.int .i64 al, Value.int .i64 bl] 3)) W.heap.size [.int .i64 al, .int .i64 bl] := row2 _ _ _ _
      exact ⟨(fun j => if j = 8 then .int .i64 al else if j = 10 then .int .i64 bl else if j = 11 then .slice (some ⟨W.heap.size, 0, none⟩) 2 2 else v j), (fun j => if j = 4 then W.heap.size else g j), rfl, ⟨below_on hR.st hb, hR.f0.keep rfl, (fun _ => rfl), hR.f2.keep rfl, (fun _ => rfl), (fun _ => rfl), hR.f5.keep rfl, hR.f6.keep rfl, hR.f7.keep rfl, hR.f8.keep rfl, hR.f9.keep rfl, hR.f10.keep rfl, hR.f11.keep rfl, hR.f12.keep rfl, hR.f13.keep rfl, (fun _ => ⟨hz, hrow⟩), hR.b10.keepM rfl (fun h => ⟨h.1, h.2.on hb⟩), hR.b13.keepM rfl (fun h => h.on hb), (fun _ h => by have h1 := (hR.b10 (upd_back h rfl)).2.1; exact Nat.ne_of_gt h1), (fun _ h => by have h1 := (hR.b13 (upd_back h rfl)).lt; exact Nat.ne_of_gt h1), hR.n10_13.keep rfl rfl, hR.c14.keepM rfl (fun h => ⟨upd_on h.1, h.2.on hb⟩)⟩⟩
    refine EachOf.cons [4] rfl (by kernel_rfl) ?_ ?_
    · rintro L A W ⟨v, g, rfl, hR⟩ hi hw K hK
      have e4 := hR.f4 (hw 4 (by simp))
      simp only [e4]
      clear e4
      have hrw := (hR.b4 (hw 4 (by simp))).2
      go_simp
      go_at_call 47
      (with_reducible refine ((great2 al bl _ _ hrw).out).mono ?_)
      rintro e w2 ⟨rfl, rfl⟩
      go_simp
      refine hK.out _ _ ?_
      exact ⟨(fun j => if j = 11 then .slice (some ⟨g 4, 0, none⟩) 2 2 else if j = 12 then .int .i64 (max al bl) else v j), g, rfl, ⟨hR.st, hR.f0.keep rfl, hR.f1.keep rfl, hR.f2.keep rfl, hR.f3.keep rfl, (fun _ => rfl), (fun _ => rfl), hR.f6.keep rfl, hR.f7.keep rfl, hR.f8.keep rfl, hR.f9.keep rfl, hR.f10.keep rfl, hR.f11.keep rfl, hR.f12.keep rfl, hR.f13.keep rfl, hR.b4.keep rfl, hR.b10.keep rfl, hR.b13.keep rfl, hR.n4_10.keep rfl rfl, hR.n4_13.keep rfl rfl, hR.n10_13.keep rfl rfl, hR.c14.keepM rfl (fun h => ⟨upd_on h.1, h.2⟩)⟩⟩
    refine EachOf.cons [] rfl (by kernel_rfl) ?_ ?_
    · rintro L A W ⟨v, g, rfl, hR⟩ hi hw K hK
      go_simp
      refine hK.out _ _ ?_
      exact ⟨(fun j => if j = 13 then .pointer (some ⟨w.heap.size, 1, none⟩) else v j), g, rfl, ⟨hR.st, hR.f0.keep rfl, hR.f1.keep rfl, hR.f2.keep rfl, hR.f3.keep rfl, hR.f4.keep rfl, hR.f5.keep rfl, (fun _ => rfl), hR.f7.keep rfl, hR.f8.keep rfl, hR.f9.keep rfl, hR.f10.keep rfl, hR.f11.keep rfl, hR.f12.keep rfl, hR.f13.keep rfl, hR.b4.keep rfl, hR.b10.keep rfl, hR.b13.keep rfl, hR.n4_10.keep rfl rfl, hR.n4_13.keep rfl rfl, hR.n10_13.keep rfl rfl, hR.c14.keepM rfl (fun h => ⟨upd_on h.1, h.2⟩)⟩⟩
    refine EachOf.cons [6] rfl (by kernel_rfl) ?_ ?_
    · rintro L A W ⟨v, g, rfl, hR⟩ hi hw K hK
      have e6 := hR.f6 (hw 6 (by simp))
      simp only [e6]
      clear e6
      obtain ⟨_, q0, q1⟩ := HA.out.on hR.st
      go_simp
      refine hK.out _ _ ?_
      exact ⟨(fun j => if j = 13 then .pointer (some ⟨w.heap.size, 1, none⟩) else if j = 14 then .int .i64 ah else v j), g, rfl, ⟨hR.st, hR.f0.keep rfl, hR.f1.keep rfl, hR.f2.keep rfl, hR.f3.keep rfl, hR.f4.keep rfl, hR.f5.keep rfl, (fun _ => rfl), (fun _ => rfl), hR.f8.keep rfl, hR.f9.keep rfl, hR.f10.keep rfl, hR.f11.keep rfl, hR.f12.keep rfl, hR.f13.keep rfl, hR.b4.keep rfl, hR.b10.keep rfl, hR.b13.keep rfl, hR.n4_10.keep rfl rfl, hR.n4_13.keep rfl rfl, hR.n10_13.keep rfl rfl, hR.c14.keepM rfl (fun h => ⟨upd_on h.1, h.2⟩)⟩⟩
    refine EachOf.cons [] rfl (by kernel_rfl) ?_ ?_
    · rintro L A W ⟨v, g, rfl, hR⟩ hi hw K hK
      go_simp
      refine hK.out _ _ ?_
      exact ⟨(fun j => if j = 15 then .pointer (some ⟨w.heap.size + 1, 1, none⟩) else v j), g, rfl, ⟨hR.st, hR.f0.keep rfl, hR.f1.keep rfl, hR.f2.keep rfl, hR.f3.keep rfl, hR.f4.keep rfl, hR.f5.keep rfl, hR.f6.keep rfl, hR.f7.keep rfl, (fun _ => rfl), hR.f9.keep rfl, hR.f10.keep rfl, hR.f11.keep rfl, hR.f12.keep rfl, hR.f13.keep rfl, hR.b4.keep rfl, hR.b10.keep rfl, hR.b13.keep rfl, hR.n4_10.keep rfl rfl, hR.n4_13.keep rfl rfl, hR.n10_13.keep rfl rfl, hR.c14.keepM rfl (fun h => ⟨upd_on h.1, h.2⟩)⟩⟩
    refine EachOf.cons [8] rfl (by kernel_rfl) ?_ ?_
    · rintro L A W ⟨v, g, rfl, hR⟩ hi hw K hK
      have e8 := hR.f8 (hw 8 (by simp))
      simp only [e8]
      clear e8
      obtain ⟨_, q0, q1⟩ := HB.out.on hR.st
      go_simp
      refine hK.out _ _ ?_
      exact ⟨(fun j => if j = 15 then .pointer (some ⟨w.heap.size + 1, 1, none⟩) else if j = 16 then .int .i64 bh else v j), g, rfl, ⟨hR.st, hR.f0.keep rfl, hR.f1.keep rfl, hR.f2.keep rfl, hR.f3.keep rfl, hR.f4.keep rfl, hR.f5.keep rfl, hR.f6.keep rfl, hR.f7.keep rfl, (fun _ => rfl), (fun _ => rfl), hR.f10.keep rfl, hR.f11.keep rfl, hR.f12.keep rfl, hR.f13.keep rfl, hR.b4.keep rfl, hR.b10.keep rfl, hR.b13.keep rfl, hR.n4_10.keep rfl rfl, hR.n4_13.keep rfl rfl, hR.n10_13.keep rfl rfl, hR.c14.keepM rfl (fun h => ⟨upd_on h.1, h.2⟩)⟩⟩
    refine EachOf.cons [7, 9] rfl (by kernel_rfl) ?_ ?_
    · rintro L A W ⟨v, g, rfl, hR⟩ hi hw K hK
      have e7 := hR.f7 (hw 7 (by simp))
      have e9 := hR.f9 (hw 9 (by simp))
      simp only [e7, e9]
      clear e7 e9
      have hz := hR.st.size
      go_simp
      refine hK.out _ _ ?_
      have hb : Below W.heap.size W (W.alloc (Obj.cells #[Value.int .i64 ah, Value.int .i64 bh] 3)) := (Below.refl _ _).alloc (Nat.le_refl _) _
      have hrow : Row (W.alloc (Obj.cells #[Value.int .i64 ah, Value.int .i64 bh] 3)) W.heap.size [.int .i64 ah, .int .i64 bh] := row2 _ _ _ _
      exact ⟨(fun j => if j = 14 then .int .i64 ah else if j = 16 then .int .i64 bh else if j = 17 then .slice (some ⟨W.heap.size, 0, none⟩) 2 2 else v j), (fun j => if j = 10 then W.heap.size else g j), rfl, ⟨below_on hR.st hb, hR.f0.keep rfl, hR.f1.keep rfl, hR.f2.keep rfl, hR.f3.keep rfl, hR.f4.keep rfl, hR.f5.keep rfl, hR.f6.keep rfl, (fun _ => rfl), hR.f8.keep rfl, (fun _ => rfl), (fun _ => rfl), hR.f11.keep rfl, hR.f12.keep rfl, hR.f13.keep rfl, hR.b4.keepM rfl (fun h => ⟨h.1, h.2.on hb⟩), (fun _ => ⟨hz, hrow⟩), hR.b13.keepM rfl (fun h => h.on hb), (fun h _ => by have h1 := (hR.b4 (upd_back h rfl)).2.1; exact Nat.ne_of_lt h1), hR.n4_13.keep rfl rfl, (fun _ h => by have h1 := (hR.b13 (upd_back h rfl)).lt; exact Nat.ne_of_gt h1), hR.c14.keepM rfl (fun h => ⟨upd_on h.1, h.2.on hb⟩)⟩⟩
    refine EachOf.cons [10] rfl (by kernel_rfl) ?_ ?_
    · rintro L A W ⟨v, g, rfl, hR⟩ hi hw K hK
      have e10 := hR.f10 (hw 10 (by simp))
      simp only [e10]
      clear e10
      have hrw := (hR.b10 (hw 10 (by simp))).2
      go_simp
      go_at_call 48
      (with_reducible refine ((least2 ah bh _ _ hrw).out).mono ?_)
      rintro e w2 ⟨rfl, rfl⟩
      go_simp
      refine hK.out _ _ ?_
      exact ⟨(fun j => if j = 17 then .slice (some ⟨g 10, 0, none⟩) 2 2 else if j = 18 then .int .i64 (min ah bh) else v j), g, rfl, ⟨hR.st, hR.f0.keep rfl, hR.f1.keep rfl, hR.f2.keep rfl, hR.f3.keep rfl, hR.f4.keep rfl, hR.f5.keep rfl, hR.f6.keep rfl, hR.f7.keep rfl, hR.f8.keep rfl, hR.f9.keep rfl, (fun _ => rfl), (fun _ => rfl), hR.f12.keep rfl, hR.f13.keep rfl, hR.b4.keep rfl, hR.b10.keep rfl, hR.b13.keep rfl, hR.n4_10.keep rfl rfl, hR.n4_13.keep rfl rfl, hR.n10_13.keep rfl rfl, hR.c14.keepM rfl (fun h => ⟨upd_on h.1, h.2⟩)⟩⟩
    refine EachOf.cons [5, 11] rfl (by kernel_rfl) ?_ ?_
    · rintro L A W ⟨v, g, rfl, hR⟩ hi hw K hK
      have e5 := hR.f5 (hw 5 (by simp))
      have e11 := hR.f11 (hw 11 (by simp))
      simp only [e5, e11]
      clear e5 e11
      go_simp
      refine hK.out _ _ ?_
      exact ⟨(fun j => if j = 12 then .int .i64 (max al bl) else if j = 18 then .int .i64 (min ah bh) else if j = 19 then .agg #[.int .i64 (max al bl), .int .i64 (min ah bh)] else v j), g, rfl, ⟨hR.st, hR.f0.keep rfl, hR.f1.keep rfl, hR.f2.keep rfl, hR.f3.keep rfl, hR.f4.keep rfl, (fun _ => rfl), hR.f6.keep rfl, hR.f7.keep rfl, hR.f8.keep rfl, hR.f9.keep rfl, hR.f10.keep rfl, (fun _ => rfl), (fun _ => rfl), hR.f13.keep rfl, hR.b4.keep rfl, hR.b10.keep rfl, hR.b13.keep rfl, hR.n4_10.keep rfl rfl, hR.n4_13.keep rfl rfl, hR.n10_13.keep rfl rfl, hR.c14.keepM rfl (fun h => ⟨upd_on h.1, h.2⟩)⟩⟩
    refine EachOf.cons [] rfl (by kernel_rfl) ?_ ?_
    · rintro L A W ⟨v, g, rfl, hR⟩ hi hw K hK
      have hz := hR.st.size
      go_simp
      refine hK.out _ _ ?_
      have hb : Below W.heap.size W (W.alloc (Obj.cells #[Value.int IntKind.i64 0, Value.int IntKind.i64 0] 23)) := (Below.refl _ _).alloc (Nat.le_refl _) _
      exact ⟨(fun j => if j = 6 then .pointer (some ⟨W.heap.size, 0, none⟩) else v j), (fun j => if j = 13 then W.heap.size else g j), rfl, ⟨below_on hR.st hb, hR.f0.keep rfl, hR.f1.keep rfl, hR.f2.keep rfl, hR.f3.keep rfl, hR.f4.keep rfl, hR.f5.keep rfl, hR.f6.keep rfl, hR.f7.keep rfl, hR.f8.keep rfl, hR.f9.keep rfl, hR.f10.keep rfl, hR.f11.keep rfl, hR.f12.keep rfl, (fun _ => rfl), hR.b4.keepM rfl (fun h => ⟨h.1, h.2.on hb⟩), hR.b10.keepM rfl (fun h => ⟨h.1, h.2.on hb⟩), (fun _ => Own.new _ _ _ _ hz), hR.n4_10.keep rfl rfl, (fun h _ => by have h1 := (hR.b4 (upd_back h rfl)).2.1; exact Nat.ne_of_lt h1), (fun h _ => by have h1 := (hR.b10 (upd_back h rfl)).2.1; exact Nat.ne_of_lt h1), (fun h => absurd ((hR.c14 (upd_back h rfl)).1) (by simp [hi]))⟩⟩
    refine EachOf.cons [13, 12] rfl (by kernel_rfl) ?_ ?_
    · rintro L A W ⟨v, g, rfl, hR⟩ hi hw K hK
      have e13 := hR.f13 (hw 13 (by simp))
      have e12 := hR.f12 (hw 12 (by simp))
      simp only [e13, e12]
      clear e13 e12
      have o2 := hR.b13 (hw 13 (by simp))
      have o1 := o2.1
      have HO := Lib.hid o2
      clear o2
      obtain ⟨_, ⟨u5, v5, l5, p5, q5⟩, r5, s5⟩ := HO.out
      go_simp
      have o2 := HO.out
      refine hK.out _ _ ?_
      exact ⟨(fun j => if j = 6 then .pointer (some ⟨g 13, 0, none⟩) else if j = 19 then .agg #[.int .i64 (max al bl), .int .i64 (min ah bh)] else v j), g, rfl, ⟨(hR.st.setCell (by simpa using o1) _).setCell (by simpa using o1) _, hR.f0.keep rfl, hR.f1.keep rfl, hR.f2.keep rfl, hR.f3.keep rfl, hR.f4.keep rfl, hR.f5.keep rfl, hR.f6.keep rfl, hR.f7.keep rfl, hR.f8.keep rfl, hR.f9.keep rfl, hR.f10.keep rfl, hR.f11.keep rfl, (fun _ => rfl), (fun _ => rfl), (fun hl => by have h := hR.b4 (upd_back hl rfl); exact ⟨h.1, h.2.far (fun e => hR.n4_13 (upd_back hl rfl) (hw 13 (by simp)) e.symm)⟩), (fun hl => by have h := hR.b10 (upd_back hl rfl); exact ⟨h.1, h.2.far (fun e => hR.n10_13 (upd_back hl rfl) (hw 13 (by simp)) e.symm)⟩), hR.b13.keepM rfl (fun h => h.set), hR.n4_10.keep rfl rfl, hR.n4_13.keep rfl rfl, hR.n10_13.keep rfl rfl, (fun _ => ⟨upd_on (hw 13 (by simp)), o2.setw⟩)⟩⟩
    exact EachOf.nil
  rintro L A W1 ⟨v1, g1, rfl, hR⟩ hL
  have e13 := hR.f13 (hL 13 (by simp))
  have hst := Lib.hid hR.st
  simp only [e13]
  clear e13
  have HM := Lib.hid (hR.c14 (hL 14 (by simp))).2
  have HMF := Lib.hid (hR.b13 (hL 13 (by simp))).2.2
  have HMN := Lib.hid (hR.b13 (hL 13 (by simp))).1
  clear hR hL
  generalize g1 13 = gm at *
  replace HF := Lib.hid (HF.out.on HR.out.1 hst.out)
  replace HA := Lib.hid (HA.out.on hst.out)
  replace HB := Lib.hid (HB.out.on hst.out)
  replace HR := Lib.hid (HR.out.on hst.out)
  replace HW := Lib.hid (below_on HW.out hst.out)
  obtain ⟨_, HAp, HAq⟩ := HA.out
  obtain ⟨_, HBp, HBq⟩ := HB.out
  obtain ⟨_, HRp, HRq⟩ := HR.out
  obtain ⟨_, HMp, HMq⟩ := HM.out
  obtain ⟨HFp, HFq⟩ := HF.out
  unfold meetS at h
  by_cases hm : min ah bh < max al bl
  · rw [if_pos hm] at h
    obtain ⟨q1, q2, q3⟩ := three h
    subst q1; subst q2; subst q3
    have d1 : decide (min ah bh < max al bl) = true := decide_eq_true hm
    clear h hm
    go_wp2
    obtain ⟨_, r8, r9⟩ := Blk.set (x := .int .i64 0) (y := .int .i64 0) HR.out
    have hB := ((HW.out.setCell (p := ⟨w.heap.size + 1 + 1, 0, none⟩) (by simp; omega) (.int .i64 0)).setCell (p := ⟨w.heap.size + 1 + 1, 1, none⟩) (by simp; omega) (.int .i64 0))
    refine bodyPost_ret (by simp [results, Try.results21, go_sem, r8, r9]; try rfl) rfl ?_
    exact ⟨rfl, hB⟩
  · rw [if_neg hm] at h
    obtain ⟨q1, q2, q3⟩ := three h
    subst q1; subst q2; subst q3
    have d1 : decide (min ah bh < max al bl) = false := decide_eq_false hm
    clear h hm
    go_wp2
    obtain ⟨_, r8, r9⟩ := Blk.set (x := .int .i64 (max al bl)) (y := .int .i64 (min ah bh)) HR.out
    have hB := ((HW.out.setCell (p := ⟨w.heap.size + 1 + 1, 0, none⟩) (by simp; omega) (.int .i64 (max al bl))).setCell (p := ⟨w.heap.size + 1 + 1, 1, none⟩) (by simp; omega) (.int .i64 (min ah bh)))
    refine bodyPost_ret (by simp [results, Try.results21, go_sem, r8, r9]; try rfl) rfl ?_
    exact ⟨rfl, hB⟩

end Go.Proofs.Ytknbhpnhnhfbpaa
