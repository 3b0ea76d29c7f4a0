/- Layer 4: a column is made simple. -/
import Derived.Test.YtjggnmbdgagkoaaLBase
import Derived.Test.YtjggnmbdgagkoaaLExch
import Derived.Deep.AppendLies
namespace Go.Proofs.Ytjggnmbdgagkoaa
set_option linter.unusedVariables false
open Go.RowKit Go.Shelf

/-- The rows while a column is made simple: those before i are done, of the row i the numbers before j. -/
def mixE (k i j : Nat) (P E : Nat → Nat → Int) : Nat → Nat → Int := fun r s => if r ≠ k ∧ (r < i ∨ (r = i ∧ s < j)) then P r s else E r s
theorem mix_zero (k : Nat) (P E : Nat → Nat → Int) : mixE k 0 0 P E = E := by
  funext r s; unfold mixE; rw [if_neg (by omega)]
theorem mix_at (k i j s : Nat) (P E : Nat → Nat → Int) (h : j ≤ s) : mixE k i j P E i s = E i s := by
  unfold mixE; rw [if_neg (by omega)]
theorem mix_own (k i j s : Nat) (P E : Nat → Nat → Int) : mixE k i j P E k s = E k s := by
  unfold mixE; rw [if_neg (by omega)]
theorem mix_set (k i j : Nat) (P E : Nat → Nat → Int) (h : i ≠ k) : setE (mixE k i j P E) i j (P i j) = mixE k i (j + 1) P E := by
  funext r s
  unfold setE mixE
  by_cases e : r = i ∧ s = j
  · obtain ⟨rfl, rfl⟩ := e
    rw [if_pos ⟨rfl, rfl⟩, if_pos (by omega)]
  · rw [if_neg e]
    by_cases g : r ≠ k ∧ (r < i ∨ (r = i ∧ s < j))
    · rw [if_pos g, if_pos (by omega)]
    · rw [if_neg g, if_neg (by omega)]
theorem mix_row (k i n r s : Nat) (P E : Nat → Nat → Int) (hs : s < n) : mixE k (i + 1) 0 P E r s = mixE k i n P E r s := by
  unfold mixE
  by_cases g : r ≠ k ∧ (r < i ∨ (r = i ∧ s < n))
  · rw [if_pos g, if_pos (by omega)]
  · rw [if_neg g, if_neg (by omega)]
theorem mix_skip (k : Nat) (P E : Nat → Nat → Int) : mixE k (k + 1) 0 P E = mixE k k 0 P E := by
  funext r s; unfold mixE
  by_cases g : r ≠ k ∧ (r < k ∨ (r = k ∧ s < 0))
  · rw [if_pos g, if_pos (by omega)]
  · rw [if_neg g, if_neg (by omega)]
theorem mix_end (k R r s : Nat) (P E : Nat → Nat → Int) (h : P k s = E k s) (hr : r < R) : P r s = mixE k R 0 P E r s := by
  unfold mixE
  by_cases e : r = k
  · subst e; rw [if_neg (by omega), h]
  · rw [if_pos (by omega)]

structure SmpR (eb b xb k i j c n : Nat) (G C : Nat → Nat) (va vb vd f D r : Int) (Wc : World) (L : Nat → Bool) (v : Nat → Value) (W : World) : Prop where
  st : L 21 = false → Below Wc.heap.size Wc W
  s1 : Had L 21 (∃ W2, Below Wc.heap.size Wc W2 ∧ W = W2.setCell ⟨G i, j, none⟩ (.int .i64 r))
  w4 : Had L 4 (∀ j ∈ [2, 3], L j = true)
  w5 : Had L 5 (∀ j ∈ [4], L j = true)
  w8 : Had L 8 (∀ j ∈ [6, 7], L j = true)
  w9 : Had L 9 (∀ j ∈ [8], L j = true)
  w13 : Had L 13 (∀ j ∈ [11, 12], L j = true)
  w14 : Had L 14 (∀ j ∈ [13], L j = true)
  w16 : Had L 16 (∀ j ∈ [15], L j = true)
  w17 : Had L 17 (∀ j ∈ [16], L j = true)
  w18 : Had L 18 (∀ j ∈ [17], L j = true)
  w19 : Had L 19 (∀ j ∈ [5, 9, 10, 14, 18], L j = true)
  w20 : Had L 20 (∀ j ∈ [0, 1], L j = true)
  w21 : Had L 21 (∀ j ∈ [0, 1, 2, 3, 4, 5, 6, 7, 8, 9, 10, 11, 12, 13, 14, 15, 16, 17, 18, 19, 20], L j = true)
  f0 : Had L 0 (v 63 = .slice (some ⟨G i, 0, none⟩) (n) (C i))
  f1 : Had L 1 (v 64 = .int .i64 (j : Int))
  f2 : Had L 2 (v 65 = .slice (some ⟨G k, 0, none⟩) (n) (C k))
  f3 : Had L 3 (v 66 = .int .i64 (c : Int))
  f4 : Had L 4 (v 67 = .pointer (some ⟨G k, c, none⟩))
  f5 : Had L 5 (v 68 = .int .i64 va)
  f6 : Had L 6 (v 69 = .slice (some ⟨G i, 0, none⟩) (n) (C i))
  f7 : Had L 7 (v 70 = .int .i64 (j : Int))
  f8 : Had L 8 (v 71 = .pointer (some ⟨G i, j, none⟩))
  f9 : Had L 9 (v 72 = .int .i64 vb)
  f10 : Had L 10 (v 73 = .int .i64 f)
  f11 : Had L 11 (v 74 = .slice (some ⟨G k, 0, none⟩) (n) (C k))
  f12 : Had L 12 (v 75 = .int .i64 (j : Int))
  f13 : Had L 13 (v 76 = .pointer (some ⟨G k, j, none⟩))
  f14 : Had L 14 (v 77 = .int .i64 vd)
  f15 : Had L 15 (v 78 = .pointer (some ⟨eb, 0, none⟩))
  f16 : Had L 16 (v 79 = .pointer (some ⟨eb, 0, none⟩))
  f17 : Had L 17 (v 80 = .pointer (some ⟨eb, 2, none⟩))
  f18 : Had L 18 (v 81 = .int .i64 D)
  f19 : Had L 19 (v 82 = .int .i64 r)
  f20 : Had L 20 (v 83 = .pointer (some ⟨G i, j, none⟩))

structure PvtR (B0 eb xb k c pc : Nat) (pa : Option Addr) (p : Nat → Nat) (Wc : World) (L : Nat → Bool) (v : Nat → Value) (W : World) : Prop where
  st : L 7 = false → Below Wc.heap.size Wc W
  xB : Had L 6 (L 7 = false → ∃ B, v 92 = .slice (some ⟨B, 0, none⟩) 1 1 ∧ W.cell? ⟨B, 0, none⟩ = some (.int .i64 (c : Int)))
  xA : Had L 7 (L 10 = false → AppW Wc W B0 3 (.slice pa k pc) k (((List.range k).map fun l => Value.int .i64 (p l)) ++ [Value.int .i64 (c : Nat)]) (v 93))
  s1 : Had L 10 (∃ W2 z, AppW Wc W2 B0 3 (.slice pa k pc) k (((List.range k).map fun l => Value.int .i64 (p l)) ++ [Value.int .i64 (c : Nat)]) z ∧ W = W2.setCell ⟨eb, 1, none⟩ z)
  w2 : Had L 2 (∀ j ∈ [1], L j = true)
  w3 : Had L 3 (∀ j ∈ [2], L j = true)
  w4 : Had L 4 (∀ j ∈ [3], L j = true)
  w6 : Had L 6 (∀ j ∈ [5], L j = true)
  w7 : Had L 7 (∀ j ∈ [4, 6], L j = true)
  w8 : Had L 8 (∀ j ∈ [0], L j = true)
  w9 : Had L 9 (∀ j ∈ [8], L j = true)
  w10 : Had L 10 (∀ j ∈ [0, 1, 2, 3, 4, 5, 6, 7, 9], L j = true)
  f0 : Had L 0 (v 86 = .pointer (some ⟨eb, 0, none⟩))
  f1 : Had L 1 (v 87 = .pointer (some ⟨eb, 0, none⟩))
  f2 : Had L 2 (v 88 = .pointer (some ⟨eb, 0, none⟩))
  f3 : Had L 3 (v 89 = .pointer (some ⟨eb, 1, none⟩))
  f4 : Had L 4 (v 90 = .slice pa k pc)
  f5 : Had L 5 (v 91 = .int .i64 (c : Int))
  f8 : Had L 8 (v 94 = .pointer (some ⟨eb, 0, none⟩))
  f9 : Had L 9 (v 95 = .pointer (some ⟨eb, 1, none⟩))

theorem one_news {W : World} {B : Nat} {x : Value} (h : W.cell? ⟨B, 0, none⟩ = some x) : ∀ j u, [x][j]? = some u → W.cell? ((⟨B, 0, none⟩ : Addr).add j) = some u := fun j u hu => by
  cases j with
  | zero =>
    simp at hu
    subst hu
    exact h
  | succ j => simp at hu

set_option maxRecDepth 100000 in
set_option maxHeartbeats 16000000 in
theorem simplify_any (B0 eb b R n m Cb k c : Nat) (G C : Nat → Nat) (M U E : Nat → Nat → Int) (pv : Value) (p : Nat → Nat) (D : Int) (w : World) (hB0 : B0 ≤ w.heap.size) (hS : ESt B0 w eb b R n Cb G C E pv k p D) (hI : EInv R n m M U k c p E D) (hc : c < n) (hn13 : n ≤ 13) (hR13 : R ≤ 13) :
    Calls Try.prog 70 #[.pointer (some ⟨eb, 0, none⟩), .int .i64 c] w fun e w' => e = .returned (.tuple #[]) ∧ Below B0 w w' ∧
      ∃ G' C' U' E' pv' k' p' D', ESt B0 w' eb b R n Cb G' C' E' pv' k' p' D' ∧ EInv R n m M U' k' (c + 1) p' E' D' := by
  have HB0 := Lib.hid hB0
  have HI := Lib.hid hI
  have hkR := hI.kR
  have hCb := hS.cb
  have hb1 : Below w.heap.size w (w.alloc (Obj.cells #[Value.int IntKind.i64 (c : Int)] 3)) := (Below.refl _ _).alloc (Nat.le_refl _) _
  obtain ⟨w1, hw1⟩ : ∃ W, W = w.alloc (Obj.cells #[Value.int IntKind.i64 (c : Int)] 3) := ⟨_, rfl⟩
  obtain ⟨xb, hxb⟩ : ∃ x, x = w.heap.size := ⟨_, rfl⟩
  have hx : xb < w1.heap.size := by rw [hw1, hxb]; simp
  have hxc : w1.cell? ⟨xb, 0, none⟩ = some (.int .i64 c) := by rw [hw1, hxb]; simp
  have HS1 : Hid (ESt B0 w1 eb b R n Cb G C E pv k p D) := by rw [hw1]; exact hS.on hb1
  have HW1 : Hid (Below w.heap.size w w1) := by rw [hw1]; exact hb1
  have CA := fun cap => Lib.hid (ahead_any B0 b R n c xb k cap G C E w1 HS1.out.g hc hkR hR13 hx hxc)
  have HX := Lib.hid (And.intro hxc hx)
  have HXN : Hid ((∀ i, i < R → G i ≠ xb) ∧ xb ≠ b ∧ xb ≠ eb ∧ ∀ q, pv.ownBlock = some q → q ≠ xb) :=
    ⟨fun i hi => by have := (hS.g.row i hi).2.1; omega, by have := hS.g.hb; omega, by have := hS.e.hb; omega, fun q hq => by have := (hS.o.lt q hq).2; omega⟩
  clear hb1 hS hI hB0 hx hxc
  obtain ⟨pa, pc, hpv⟩ := own_form HS1.out.o
  subst hpv
  go_enter Try.func70, Try.ntmps70
  go_upto_region 1 with fail
  rw [← hxb, ← hw1]
  clear hxb hw1
  have q0 := HS1.out.e.c0
  have q1 := HS1.out.e.c1
  go_wp2_with fail
  · have hRk : R = k := by omega
    clear q0 q1
    have z : R - k = 0 := by omega
    rw [z]
    (with_reducible refine (Try.slices_IndexFunc_empty_f82 (α := Nat) (some ⟨b, 0, none⟩) 0 _ w1).mono ?_)
    rintro e w2 ⟨rfl, rfl⟩
    have HRK := Lib.hid hRk
    clear hRk h z
    go_wp2_with fail
    (first | go_end0 | ((try simp only [Exit.inBlock, Exit.then]); refine bodyPost_ret (results_none rfl _ _ _) rfl ?_))
    exact ⟨rfl, HW1.out.mono HB0.out, _, _, _, _, _, _, _, _, HS1.out, HI.out.free hc fun i h1 h2 => by have := HRK.out; omega⟩
  · clear q0 q1
    (with_reducible refine ((CA _).out).mono ?_)
    rintro e w2 ⟨hb, hcase⟩
    have HS2 := Lib.hid (HS1.out.on hb)
    have HX2 : Hid (w2.cell? ⟨xb, 0, none⟩ = some (.int .i64 c) ∧ xb < w2.heap.size) := ⟨(hb.cell (p := ⟨xb, 0, none⟩) HX.out.2).trans HX.out.1, Nat.lt_of_lt_of_le HX.out.2 hb.size⟩
    have HW2 := Lib.hid (below_on HW1.out hb)
    clear CA HS1 HX HW1 hb
    rcases hcase with ⟨rfl, hz⟩ | ⟨d, hd, rfl, hne⟩
    · have HZ := Lib.hid hz
      clear hz
      go_wp2_with fail
      (first | go_end0 | ((try simp only [Exit.inBlock, Exit.then]); refine bodyPost_ret (results_none rfl _ _ _) rfl ?_))
      exact ⟨rfl, HW2.out.mono HB0.out, _, _, _, _, _, _, _, _, HS2.out, HI.out.free hc HZ.out⟩
    · have HNE := Lib.hid hne
      clear hne
      go_upto_if 27 with fail
      go_cut [] (fun wx => ∃ G' C' U' E', Hid (ESt B0 wx eb b R n Cb G' C' E' (.slice pa k pc) k p D) ∧ Hid (EInv R n m M U' k c p E' D) ∧ Hid (E' k c ≠ 0) ∧ Hid (wx.cell? ⟨xb, 0, none⟩ = some (.int .i64 c) ∧ xb < wx.heap.size) ∧ Hid (Below B0 w wx) ∧ Hid (∀ i, i < R → G' i ≠ xb))
      case first =>
        by_cases d0 : d = 0
        · subst d0
          go_wp2_with fail
          go_meet
          exact ⟨G, C, U, E, HS2, HI, by have := HNE.out; rwa [Nat.add_zero] at this, HX2, HW2.out.mono HB0.out, HXN.out.1⟩
        · have dd : decide (0 < d) = true := decide_eq_true (by omega)
          have wk : IntKind.i64.wrap ((k : Int) + (d : Int)) = (k : Int) + (d : Int) := IntWalk.i64_in _ (by omega)
          have CE0 := (exchange_any B0 eb b R n Cb k (k + d) G C E _ _ w2 HS2.out.e HS2.out.g HS2.out.ne HS2.out.nr (by omega) hd hR13 hn13 (fun j hj => by have := HI.out.small.2 k j (by omega) hj; omega))
          rw [Int.natCast_add] at CE0
          have CE := Lib.hid CE0
          clear CE0
          go_wp2_with fail
          (with_reducible refine (CE.out).mono ?_)
          rintro e w3 ⟨rfl, h1, h2, h3⟩
          have HS3 := Lib.hid (HS2.out.swap k (k + d) (by omega) hd h1 h2 h3)
          have HI3 := Lib.hid (HI.out.swap (k + d) (by omega) hd)
          have n3 : Hid (exU k (k + d) E k c ≠ 0) := by show exU k (k + d) E k c ≠ 0; unfold exU; rw [if_pos rfl]; exact HNE.out
          have X3 : Hid (w3.cell? ⟨xb, 0, none⟩ = some (.int .i64 c) ∧ xb < w3.heap.size) := ⟨(h3.cell (p := ⟨xb, 0, none⟩) HX2.out.2 (fun h => by
            rcases h with h | h
            · exact HXN.out.2.1 h
            · exact HXN.out.1 k (by omega) h.symm)).trans HX2.out.1, Nat.lt_of_lt_of_le HX2.out.2 h3.size⟩
          have B3 : Hid (Below B0 w w3) := (HW2.out.mono HB0.out).trans (h3.below (by have := HW2.out.size; have := HB0.out; omega) (fun q hq => by
            rcases hq with rfl | rfl
            · exact HS2.out.g.lb
            · exact (HS2.out.g.row k (by omega)).1))
          have F3 : Hid (∀ i, i < R → swN k (k + d) G i ≠ xb) := fun i hi => by
            unfold swN
            split
            · exact HXN.out.1 _ hd
            · split
              · exact HXN.out.1 _ (by omega)
              · exact HXN.out.1 _ hi
          clear h1 h2 h3
          go_wp2_with fail
          go_meet
          exact ⟨_, _, _, _, HS3, HI3, n3, X3, B3, F3⟩
      case rest =>
        have hkR2 : k < R := by omega
        obtain ⟨N1, N2, N3, N4⟩ := HXN.out
        have HN2 := Lib.hid N2
        have HN3 := Lib.hid N3
        have HN4 := Lib.hid N4
        clear HXN N1 N2 N3 N4 HS2 HI HX2 HW2 HNE hd
        obtain ⟨G, C, U, E, HS3, HI3, n3, X3, B3, F3⟩ := hcut
        rename World => W1
        obtain ⟨P, hP1, hP2, hP3⟩ := HI3.out.pivot hc hkR2 n3.out
        have HP1 := Lib.hid hP1
        have HP2 := Lib.hid hP2
        have HP3 := Lib.hid hP3
        clear hP1 hP2 hP3
        have q0 := HS3.out.e.c0
        have q1 := HS3.out.g.top k hkR2
        go_wp2_with fail
        clear q0 q1
        have S0 : Hid (ESt B0 W1 eb b R n Cb G C (mixE k 0 0 P E) (.slice pa k pc) k p D ∧ (W1.cell? ⟨xb, 0, none⟩ = some (.int .i64 c) ∧ xb < W1.heap.size) ∧ Below B0 w W1) := ⟨by rw [mix_zero]; exact HS3.out, X3.out, B3.out⟩
        clear HS3 X3 B3
        go_loopg [46] R (fun g s46 wx => ∃ i : Nat, s46 = .int .i64 i ∧ g = R - i ∧ i ≤ R ∧ Hid (ESt B0 wx eb b R n Cb G C (mixE k i 0 P E) (.slice pa k pc) k p D ∧ (wx.cell? ⟨xb, 0, none⟩ = some (.int .i64 c) ∧ xb < wx.heap.size) ∧ Below B0 w wx))
        case atStart => exact ⟨0, rfl, rfl, Nat.zero_le _, S0⟩
        case round =>
          clear S0
          obtain ⟨i, rfl, rfl, hi, S⟩ := hrel
          rename World => W2
          by_cases hlt : i < R
          · have wk : IntKind.i64.wrap ((i : Int) + 1) = ((i + 1 : Nat) : Int) := by rw [IntWalk.i64_in _ (by omega)]; omega
            have p1 := S.out.1.g.top i hlt
            by_cases e : i = k
            · subst e
              go_wp2_with fail
              go_roundg (R - (i + 1))
              case measure => omega
              case rel => exact ⟨i + 1, rfl, rfl, by omega, by rw [mix_skip]; exact S.out.1, S.out.2⟩
            · have ne : ¬ ((i : Int) = (k : Int)) := by omega
              have p2 := S.out.2.1.1
              have p3 := S.out.1.g.cell i c hlt hc
              rw [mix_at k i 0 c P E (Nat.zero_le _)] at p3
              obtain ⟨f, hf⟩ : ∃ f, E i c = f := ⟨_, rfl⟩
              rw [hf] at p3
              have HF := Lib.hid hf
              have HNE := Lib.hid e
              clear hf e
              go_wp2_with fail
              clear p1 p2 p3 ne
              generalize ((i : Int) == (k : Int)) = tb
              go_loopg [60] n (fun g s60 wx => ∃ j : Nat, s60 = .int .i64 j ∧ g = n - j ∧ j ≤ n ∧ Hid (ESt B0 wx eb b R n Cb G C (mixE k i j P E) (.slice pa k pc) k p D ∧ (wx.cell? ⟨xb, 0, none⟩ = some (.int .i64 c) ∧ xb < wx.heap.size) ∧ Below B0 w wx))
              case atStart => exact ⟨0, rfl, rfl, Nat.zero_le _, S⟩
              case round =>
                clear S
                obtain ⟨j, rfl, rfl, hj, S⟩ := hrel
                rename World => W3
                by_cases hltj : j < n
                · have wkj : IntKind.i64.wrap ((j : Int) + 1) = ((j + 1 : Nat) : Int) := by rw [IntWalk.i64_in _ (by omega)]; omega
                  have LX : Hid (W3.cell? ⟨xb, 0, none⟩ = some (.int .i64 c) ∧ xb < W3.heap.size) := S.out.2.1
                  have LA : Hid (W3.cell? ⟨G k, c, none⟩ = some (.int .i64 (E k c)) ∧ G k < W3.heap.size) := ⟨by rw [S.out.1.g.cell k c hkR2 hc, mix_own], (S.out.1.g.row k hkR2).2.1⟩
                  have LB : Hid (W3.cell? ⟨G i, j, none⟩ = some (.int .i64 (E i j)) ∧ G i < W3.heap.size) := ⟨by rw [S.out.1.g.cell i j hlt hltj, mix_at k i j j P E (Nat.le_refl _)], (S.out.1.g.row i hlt).2.1⟩
                  have LD : Hid (W3.cell? ⟨G k, j, none⟩ = some (.int .i64 (E k j)) ∧ G k < W3.heap.size) := ⟨by rw [S.out.1.g.cell k j hkR2 hltj, mix_own], (S.out.1.g.row k hkR2).2.1⟩
                  have LL : Hid (W3.cell? ⟨eb, 2, none⟩ = some (.int .i64 D) ∧ eb < W3.heap.size) := ⟨S.out.1.e.c2, S.out.1.e.hb⟩
                  have LF : Hid (W3.frozen? ⟨G i, j, none⟩ = false) := S.out.1.g.fz i j hlt hltj
                  have hs := HI3.out.small
                  have hs2 := HP1.out.small.2 i j hlt hltj
                  have h1 := hs.2 k c hkR2 hc
                  have h2 := hs.2 i j hlt hltj
                  have h3 := hs.2 i c hlt hc
                  have h4 := hs.2 k j hkR2 hltj
                  have h5 := hs.1
                  rw [HF.out] at h3
                  have CR := fun W => Lib.hid (crossedB (E k c) (E i j) f (E k j) D (P i j) W (by omega) (by omega) (by omega) (by omega) (by omega) (by omega) (by omega) (by omega) HI3.out.el.nz (by omega) (by omega) (by omega) (by omega) (by rw [← HF.out]; exact HP3.out i j hlt HNE.out))
                  clear hs hs2 h1 h2 h3 h4 h5
                  obtain ⟨va, hva⟩ : ∃ x, E k c = x := ⟨_, rfl⟩
                  obtain ⟨vb, hvb⟩ : ∃ x, E i j = x := ⟨_, rfl⟩
                  obtain ⟨vd, hvd⟩ : ∃ x, E k j = x := ⟨_, rfl⟩
                  obtain ⟨r, hr⟩ : ∃ x, P i j = x := ⟨_, rfl⟩
                  rw [hva] at LA
                  rw [hvb] at LB
                  rw [hvd] at LD
                  rw [hva, hvb, hvd, hr] at CR
                  have HR := Lib.hid hr
                  clear hva hvb hvd hr
                  go_upto_region 15 with fail
                  refine wp_region_each (fun L A W => ∃ (v : Nat → Value), A = ⟨#[_, _, _, _, _, _, _, _, _, _, _, _, _, _, _, _, _, _, _, _, _, _, _, _, _, _, _, _, _, _, _, _, _, _, _, _, _, _, _, _, _, _, _, _, _, _, _, _, _, _, _, _, _, _, _, _, _, _, _, _, _, _, _, v 63, v 64, v 65, v 66, v 67, v 68, v 69, v 70, v 71, v 72, v 73, v 74, v 75, v 76, v 77, v 78, v 79, v 80, v 81, v 82, v 83, _, _, _, _, _, _, _, _, _, _, _, _, _, _, _, _, _, _, _], []⟩ ∧ SmpR eb b xb k i j c n G C va vb vd f D r W3 L v W) (by kernel_rfl) (by kernel_rfl) ⟨fun jz => if jz = 63 then u63 else if jz = 64 then u64 else if jz = 65 then u65 else if jz = 66 then u66 else if jz = 67 then u67 else if jz = 68 then u68 else if jz = 69 then u69 else if jz = 70 then u70 else if jz = 71 then u71 else if jz = 72 then u72 else if jz = 73 then u73 else if jz = 74 then u74 else if jz = 75 then u75 else if jz = 76 then u76 else if jz = 77 then u77 else if jz = 78 then u78 else if jz = 79 then u79 else if jz = 80 then u80 else if jz = 81 then u81 else if jz = 82 then u82 else if jz = 83 then u83 else undef, rfl, ⟨(fun _ => Below.drew (Below.refl _ _)), Had.none, Had.none, Had.none, Had.none, Had.none, Had.none, Had.none, Had.none, Had.none, Had.none, Had.none, Had.none, Had.none, Had.none, Had.none, Had.none, Had.none, Had.none, Had.none, Had.none, Had.none, Had.none, Had.none, Had.none, Had.none, Had.none, Had.none, Had.none, Had.none, Had.none, Had.none, Had.none, Had.none, Had.none⟩⟩ (rs := [0, 1, 2, 3, 4, 5, 6, 7, 8, 9, 10, 11, 12, 13, 14, 15, 16, 17, 18, 19, 20, 21]) (by kernel_rfl) ?_ ?_
                  · refine EachOf.cons [] rfl (by kernel_rfl) ?_ ?_
                    · rintro L A W ⟨v, rfl, hR⟩ hi hw K hK
                      have hk : L 21 = false := hR.w21.not hi rfl
                      go_simp
                      refine hK.out _ _ ?_
                      exact ⟨(fun jz => if jz = 63 then .slice (some ⟨G i, 0, none⟩) (n) (C i) else v jz), rfl, ⟨(fun h => hR.st (upd_false h)), hR.s1.keep rfl, hR.w4.keepM rfl (fun h j hj => upd_on (h j hj)), hR.w5.keepM rfl (fun h j hj => upd_on (h j hj)), hR.w8.keepM rfl (fun h j hj => upd_on (h j hj)), hR.w9.keepM rfl (fun h j hj => upd_on (h j hj)), hR.w13.keepM rfl (fun h j hj => upd_on (h j hj)), hR.w14.keepM rfl (fun h j hj => upd_on (h j hj)), hR.w16.keepM rfl (fun h j hj => upd_on (h j hj)), hR.w17.keepM rfl (fun h j hj => upd_on (h j hj)), hR.w18.keepM rfl (fun h j hj => upd_on (h j hj)), hR.w19.keepM rfl (fun h j hj => upd_on (h j hj)), hR.w20.keepM rfl (fun h j hj => upd_on (h j hj)), hR.w21.keepM rfl (fun h j hj => upd_on (h j hj)), (fun _ => rfl), hR.f1.keep rfl, hR.f2.keep rfl, hR.f3.keep rfl, hR.f4.keep rfl, hR.f5.keep rfl, hR.f6.keep rfl, hR.f7.keep rfl, hR.f8.keep rfl, hR.f9.keep rfl, hR.f10.keep rfl, hR.f11.keep rfl, hR.f12.keep rfl, hR.f13.keep rfl, hR.f14.keep rfl, hR.f15.keep rfl, hR.f16.keep rfl, hR.f17.keep rfl, hR.f18.keep rfl, hR.f19.keep rfl, hR.f20.keep rfl⟩⟩
                    refine EachOf.cons [] rfl (by kernel_rfl) ?_ ?_
                    · rintro L A W ⟨v, rfl, hR⟩ hi hw K hK
                      have hk : L 21 = false := hR.w21.not hi rfl
                      go_simp
                      refine hK.out _ _ ?_
                      exact ⟨(fun jz => if jz = 64 then .int .i64 (j : Int) else v jz), rfl, ⟨(fun h => hR.st (upd_false h)), hR.s1.keep rfl, hR.w4.keepM rfl (fun h j hj => upd_on (h j hj)), hR.w5.keepM rfl (fun h j hj => upd_on (h j hj)), hR.w8.keepM rfl (fun h j hj => upd_on (h j hj)), hR.w9.keepM rfl (fun h j hj => upd_on (h j hj)), hR.w13.keepM rfl (fun h j hj => upd_on (h j hj)), hR.w14.keepM rfl (fun h j hj => upd_on (h j hj)), hR.w16.keepM rfl (fun h j hj => upd_on (h j hj)), hR.w17.keepM rfl (fun h j hj => upd_on (h j hj)), hR.w18.keepM rfl (fun h j hj => upd_on (h j hj)), hR.w19.keepM rfl (fun h j hj => upd_on (h j hj)), hR.w20.keepM rfl (fun h j hj => upd_on (h j hj)), hR.w21.keepM rfl (fun h j hj => upd_on (h j hj)), hR.f0.keep rfl, (fun _ => rfl), hR.f2.keep rfl, hR.f3.keep rfl, hR.f4.keep rfl, hR.f5.keep rfl, hR.f6.keep rfl, hR.f7.keep rfl, hR.f8.keep rfl, hR.f9.keep rfl, hR.f10.keep rfl, hR.f11.keep rfl, hR.f12.keep rfl, hR.f13.keep rfl, hR.f14.keep rfl, hR.f15.keep rfl, hR.f16.keep rfl, hR.f17.keep rfl, hR.f18.keep rfl, hR.f19.keep rfl, hR.f20.keep rfl⟩⟩
                    refine EachOf.cons [] rfl (by kernel_rfl) ?_ ?_
                    · rintro L A W ⟨v, rfl, hR⟩ hi hw K hK
                      have hk : L 21 = false := hR.w21.not hi rfl
                      go_simp
                      refine hK.out _ _ ?_
                      exact ⟨(fun jz => if jz = 65 then .slice (some ⟨G k, 0, none⟩) (n) (C k) else v jz), rfl, ⟨(fun h => hR.st (upd_false h)), hR.s1.keep rfl, hR.w4.keepM rfl (fun h j hj => upd_on (h j hj)), hR.w5.keepM rfl (fun h j hj => upd_on (h j hj)), hR.w8.keepM rfl (fun h j hj => upd_on (h j hj)), hR.w9.keepM rfl (fun h j hj => upd_on (h j hj)), hR.w13.keepM rfl (fun h j hj => upd_on (h j hj)), hR.w14.keepM rfl (fun h j hj => upd_on (h j hj)), hR.w16.keepM rfl (fun h j hj => upd_on (h j hj)), hR.w17.keepM rfl (fun h j hj => upd_on (h j hj)), hR.w18.keepM rfl (fun h j hj => upd_on (h j hj)), hR.w19.keepM rfl (fun h j hj => upd_on (h j hj)), hR.w20.keepM rfl (fun h j hj => upd_on (h j hj)), hR.w21.keepM rfl (fun h j hj => upd_on (h j hj)), hR.f0.keep rfl, hR.f1.keep rfl, (fun _ => rfl), hR.f3.keep rfl, hR.f4.keep rfl, hR.f5.keep rfl, hR.f6.keep rfl, hR.f7.keep rfl, hR.f8.keep rfl, hR.f9.keep rfl, hR.f10.keep rfl, hR.f11.keep rfl, hR.f12.keep rfl, hR.f13.keep rfl, hR.f14.keep rfl, hR.f15.keep rfl, hR.f16.keep rfl, hR.f17.keep rfl, hR.f18.keep rfl, hR.f19.keep rfl, hR.f20.keep rfl⟩⟩
                    refine EachOf.cons [] rfl (by kernel_rfl) ?_ ?_
                    · rintro L A W ⟨v, rfl, hR⟩ hi hw K hK
                      have hk : L 21 = false := hR.w21.not hi rfl
                      have q0 := ((hR.st hk).cell (p := ⟨xb, 0, none⟩) LX.out.2).trans LX.out.1
                      go_simp
                      refine hK.out _ _ ?_
                      exact ⟨(fun jz => if jz = 66 then .int .i64 (c : Int) else v jz), rfl, ⟨(fun h => hR.st (upd_false h)), hR.s1.keep rfl, hR.w4.keepM rfl (fun h j hj => upd_on (h j hj)), hR.w5.keepM rfl (fun h j hj => upd_on (h j hj)), hR.w8.keepM rfl (fun h j hj => upd_on (h j hj)), hR.w9.keepM rfl (fun h j hj => upd_on (h j hj)), hR.w13.keepM rfl (fun h j hj => upd_on (h j hj)), hR.w14.keepM rfl (fun h j hj => upd_on (h j hj)), hR.w16.keepM rfl (fun h j hj => upd_on (h j hj)), hR.w17.keepM rfl (fun h j hj => upd_on (h j hj)), hR.w18.keepM rfl (fun h j hj => upd_on (h j hj)), hR.w19.keepM rfl (fun h j hj => upd_on (h j hj)), hR.w20.keepM rfl (fun h j hj => upd_on (h j hj)), hR.w21.keepM rfl (fun h j hj => upd_on (h j hj)), hR.f0.keep rfl, hR.f1.keep rfl, hR.f2.keep rfl, (fun _ => rfl), hR.f4.keep rfl, hR.f5.keep rfl, hR.f6.keep rfl, hR.f7.keep rfl, hR.f8.keep rfl, hR.f9.keep rfl, hR.f10.keep rfl, hR.f11.keep rfl, hR.f12.keep rfl, hR.f13.keep rfl, hR.f14.keep rfl, hR.f15.keep rfl, hR.f16.keep rfl, hR.f17.keep rfl, hR.f18.keep rfl, hR.f19.keep rfl, hR.f20.keep rfl⟩⟩
                    refine EachOf.cons [2, 3] rfl (by kernel_rfl) ?_ ?_
                    · rintro L A W ⟨v, rfl, hR⟩ hi hw K hK
                      have hk : L 21 = false := hR.w21.not hi rfl
                      have e2 := hR.f2 (hw 2 (by simp))
                      have e3 := hR.f3 (hw 3 (by simp))
                      simp only [e2, e3]
                      clear e2 e3
                      go_simp
                      refine hK.out _ _ ?_
                      exact ⟨(fun jz => if jz = 65 then .slice (some ⟨G k, 0, none⟩) (n) (C k) else if jz = 66 then .int .i64 (c : Int) else if jz = 67 then .pointer (some ⟨G k, c, none⟩) else v jz), rfl, ⟨(fun h => hR.st (upd_false h)), hR.s1.keep rfl, (fun _ j hj => upd_on (hw j hj)), hR.w5.keepM rfl (fun h j hj => upd_on (h j hj)), hR.w8.keepM rfl (fun h j hj => upd_on (h j hj)), hR.w9.keepM rfl (fun h j hj => upd_on (h j hj)), hR.w13.keepM rfl (fun h j hj => upd_on (h j hj)), hR.w14.keepM rfl (fun h j hj => upd_on (h j hj)), hR.w16.keepM rfl (fun h j hj => upd_on (h j hj)), hR.w17.keepM rfl (fun h j hj => upd_on (h j hj)), hR.w18.keepM rfl (fun h j hj => upd_on (h j hj)), hR.w19.keepM rfl (fun h j hj => upd_on (h j hj)), hR.w20.keepM rfl (fun h j hj => upd_on (h j hj)), hR.w21.keepM rfl (fun h j hj => upd_on (h j hj)), hR.f0.keep rfl, hR.f1.keep rfl, (fun _ => rfl), (fun _ => rfl), (fun _ => rfl), hR.f5.keep rfl, hR.f6.keep rfl, hR.f7.keep rfl, hR.f8.keep rfl, hR.f9.keep rfl, hR.f10.keep rfl, hR.f11.keep rfl, hR.f12.keep rfl, hR.f13.keep rfl, hR.f14.keep rfl, hR.f15.keep rfl, hR.f16.keep rfl, hR.f17.keep rfl, hR.f18.keep rfl, hR.f19.keep rfl, hR.f20.keep rfl⟩⟩
                    refine EachOf.cons [4] rfl (by kernel_rfl) ?_ ?_
                    · rintro L A W ⟨v, rfl, hR⟩ hi hw K hK
                      have hk : L 21 = false := hR.w21.not hi rfl
                      have e4 := hR.f4 (hw 4 (by simp))
                      simp only [e4]
                      clear e4
                      have q0 := ((hR.st hk).cell (p := ⟨G k, c, none⟩) LA.out.2).trans LA.out.1
                      go_simp
                      refine hK.out _ _ ?_
                      exact ⟨(fun jz => if jz = 67 then .pointer (some ⟨G k, c, none⟩) else if jz = 68 then .int .i64 va else v jz), rfl, ⟨(fun h => hR.st (upd_false h)), hR.s1.keep rfl, hR.w4.keepM rfl (fun h j hj => upd_on (h j hj)), (fun _ j hj => upd_on (hw j hj)), hR.w8.keepM rfl (fun h j hj => upd_on (h j hj)), hR.w9.keepM rfl (fun h j hj => upd_on (h j hj)), hR.w13.keepM rfl (fun h j hj => upd_on (h j hj)), hR.w14.keepM rfl (fun h j hj => upd_on (h j hj)), hR.w16.keepM rfl (fun h j hj => upd_on (h j hj)), hR.w17.keepM rfl (fun h j hj => upd_on (h j hj)), hR.w18.keepM rfl (fun h j hj => upd_on (h j hj)), hR.w19.keepM rfl (fun h j hj => upd_on (h j hj)), hR.w20.keepM rfl (fun h j hj => upd_on (h j hj)), hR.w21.keepM rfl (fun h j hj => upd_on (h j hj)), hR.f0.keep rfl, hR.f1.keep rfl, hR.f2.keep rfl, hR.f3.keep rfl, (fun _ => rfl), (fun _ => rfl), hR.f6.keep rfl, hR.f7.keep rfl, hR.f8.keep rfl, hR.f9.keep rfl, hR.f10.keep rfl, hR.f11.keep rfl, hR.f12.keep rfl, hR.f13.keep rfl, hR.f14.keep rfl, hR.f15.keep rfl, hR.f16.keep rfl, hR.f17.keep rfl, hR.f18.keep rfl, hR.f19.keep rfl, hR.f20.keep rfl⟩⟩
                    refine EachOf.cons [] rfl (by kernel_rfl) ?_ ?_
                    · rintro L A W ⟨v, rfl, hR⟩ hi hw K hK
                      have hk : L 21 = false := hR.w21.not hi rfl
                      go_simp
                      refine hK.out _ _ ?_
                      exact ⟨(fun jz => if jz = 69 then .slice (some ⟨G i, 0, none⟩) (n) (C i) else v jz), rfl, ⟨(fun h => hR.st (upd_false h)), hR.s1.keep rfl, hR.w4.keepM rfl (fun h j hj => upd_on (h j hj)), hR.w5.keepM rfl (fun h j hj => upd_on (h j hj)), hR.w8.keepM rfl (fun h j hj => upd_on (h j hj)), hR.w9.keepM rfl (fun h j hj => upd_on (h j hj)), hR.w13.keepM rfl (fun h j hj => upd_on (h j hj)), hR.w14.keepM rfl (fun h j hj => upd_on (h j hj)), hR.w16.keepM rfl (fun h j hj => upd_on (h j hj)), hR.w17.keepM rfl (fun h j hj => upd_on (h j hj)), hR.w18.keepM rfl (fun h j hj => upd_on (h j hj)), hR.w19.keepM rfl (fun h j hj => upd_on (h j hj)), hR.w20.keepM rfl (fun h j hj => upd_on (h j hj)), hR.w21.keepM rfl (fun h j hj => upd_on (h j hj)), hR.f0.keep rfl, hR.f1.keep rfl, hR.f2.keep rfl, hR.f3.keep rfl, hR.f4.keep rfl, hR.f5.keep rfl, (fun _ => rfl), hR.f7.keep rfl, hR.f8.keep rfl, hR.f9.keep rfl, hR.f10.keep rfl, hR.f11.keep rfl, hR.f12.keep rfl, hR.f13.keep rfl, hR.f14.keep rfl, hR.f15.keep rfl, hR.f16.keep rfl, hR.f17.keep rfl, hR.f18.keep rfl, hR.f19.keep rfl, hR.f20.keep rfl⟩⟩
                    refine EachOf.cons [] rfl (by kernel_rfl) ?_ ?_
                    · rintro L A W ⟨v, rfl, hR⟩ hi hw K hK
                      have hk : L 21 = false := hR.w21.not hi rfl
                      go_simp
                      refine hK.out _ _ ?_
                      exact ⟨(fun jz => if jz = 70 then .int .i64 (j : Int) else v jz), rfl, ⟨(fun h => hR.st (upd_false h)), hR.s1.keep rfl, hR.w4.keepM rfl (fun h j hj => upd_on (h j hj)), hR.w5.keepM rfl (fun h j hj => upd_on (h j hj)), hR.w8.keepM rfl (fun h j hj => upd_on (h j hj)), hR.w9.keepM rfl (fun h j hj => upd_on (h j hj)), hR.w13.keepM rfl (fun h j hj => upd_on (h j hj)), hR.w14.keepM rfl (fun h j hj => upd_on (h j hj)), hR.w16.keepM rfl (fun h j hj => upd_on (h j hj)), hR.w17.keepM rfl (fun h j hj => upd_on (h j hj)), hR.w18.keepM rfl (fun h j hj => upd_on (h j hj)), hR.w19.keepM rfl (fun h j hj => upd_on (h j hj)), hR.w20.keepM rfl (fun h j hj => upd_on (h j hj)), hR.w21.keepM rfl (fun h j hj => upd_on (h j hj)), hR.f0.keep rfl, hR.f1.keep rfl, hR.f2.keep rfl, hR.f3.keep rfl, hR.f4.keep rfl, hR.f5.keep rfl, hR.f6.keep rfl, (fun _ => rfl), hR.f8.keep rfl, hR.f9.keep rfl, hR.f10.keep rfl, hR.f11.keep rfl, hR.f12.keep rfl, hR.f13.keep rfl, hR.f14.keep rfl, hR.f15.keep rfl, hR.f16.keep rfl, hR.f17.keep rfl, hR.f18.keep rfl, hR.f19.keep rfl, hR.f20.keep rfl⟩⟩
                    refine EachOf.cons [6, 7] rfl (by kernel_rfl) ?_ ?_
                    · rintro L A W ⟨v, rfl, hR⟩ hi hw K hK
                      have hk : L 21 = false := hR.w21.not hi rfl
                      have e6 := hR.f6 (hw 6 (by simp))
                      have e7 := hR.f7 (hw 7 (by simp))
                      simp only [e6, e7]
                      clear e6 e7
                      go_simp
                      refine hK.out _ _ ?_
                      exact ⟨(fun jz => if jz = 69 then .slice (some ⟨G i, 0, none⟩) (n) (C i) else if jz = 70 then .int .i64 (j : Int) else if jz = 71 then .pointer (some ⟨G i, j, none⟩) else v jz), rfl, ⟨(fun h => hR.st (upd_false h)), hR.s1.keep rfl, hR.w4.keepM rfl (fun h j hj => upd_on (h j hj)), hR.w5.keepM rfl (fun h j hj => upd_on (h j hj)), (fun _ j hj => upd_on (hw j hj)), hR.w9.keepM rfl (fun h j hj => upd_on (h j hj)), hR.w13.keepM rfl (fun h j hj => upd_on (h j hj)), hR.w14.keepM rfl (fun h j hj => upd_on (h j hj)), hR.w16.keepM rfl (fun h j hj => upd_on (h j hj)), hR.w17.keepM rfl (fun h j hj => upd_on (h j hj)), hR.w18.keepM rfl (fun h j hj => upd_on (h j hj)), hR.w19.keepM rfl (fun h j hj => upd_on (h j hj)), hR.w20.keepM rfl (fun h j hj => upd_on (h j hj)), hR.w21.keepM rfl (fun h j hj => upd_on (h j hj)), hR.f0.keep rfl, hR.f1.keep rfl, hR.f2.keep rfl, hR.f3.keep rfl, hR.f4.keep rfl, hR.f5.keep rfl, (fun _ => rfl), (fun _ => rfl), (fun _ => rfl), hR.f9.keep rfl, hR.f10.keep rfl, hR.f11.keep rfl, hR.f12.keep rfl, hR.f13.keep rfl, hR.f14.keep rfl, hR.f15.keep rfl, hR.f16.keep rfl, hR.f17.keep rfl, hR.f18.keep rfl, hR.f19.keep rfl, hR.f20.keep rfl⟩⟩
                    refine EachOf.cons [8] rfl (by kernel_rfl) ?_ ?_
                    · rintro L A W ⟨v, rfl, hR⟩ hi hw K hK
                      have hk : L 21 = false := hR.w21.not hi rfl
                      have e8 := hR.f8 (hw 8 (by simp))
                      simp only [e8]
                      clear e8
                      have q0 := ((hR.st hk).cell (p := ⟨G i, j, none⟩) LB.out.2).trans LB.out.1
                      go_simp
                      refine hK.out _ _ ?_
                      exact ⟨(fun jz => if jz = 71 then .pointer (some ⟨G i, j, none⟩) else if jz = 72 then .int .i64 vb else v jz), rfl, ⟨(fun h => hR.st (upd_false h)), hR.s1.keep rfl, hR.w4.keepM rfl (fun h j hj => upd_on (h j hj)), hR.w5.keepM rfl (fun h j hj => upd_on (h j hj)), hR.w8.keepM rfl (fun h j hj => upd_on (h j hj)), (fun _ j hj => upd_on (hw j hj)), hR.w13.keepM rfl (fun h j hj => upd_on (h j hj)), hR.w14.keepM rfl (fun h j hj => upd_on (h j hj)), hR.w16.keepM rfl (fun h j hj => upd_on (h j hj)), hR.w17.keepM rfl (fun h j hj => upd_on (h j hj)), hR.w18.keepM rfl (fun h j hj => upd_on (h j hj)), hR.w19.keepM rfl (fun h j hj => upd_on (h j hj)), hR.w20.keepM rfl (fun h j hj => upd_on (h j hj)), hR.w21.keepM rfl (fun h j hj => upd_on (h j hj)), hR.f0.keep rfl, hR.f1.keep rfl, hR.f2.keep rfl, hR.f3.keep rfl, hR.f4.keep rfl, hR.f5.keep rfl, hR.f6.keep rfl, hR.f7.keep rfl, (fun _ => rfl), (fun _ => rfl), hR.f10.keep rfl, hR.f11.keep rfl, hR.f12.keep rfl, hR.f13.keep rfl, hR.f14.keep rfl, hR.f15.keep rfl, hR.f16.keep rfl, hR.f17.keep rfl, hR.f18.keep rfl, hR.f19.keep rfl, hR.f20.keep rfl⟩⟩
                    refine EachOf.cons [] rfl (by kernel_rfl) ?_ ?_
                    · rintro L A W ⟨v, rfl, hR⟩ hi hw K hK
                      have hk : L 21 = false := hR.w21.not hi rfl
                      go_simp
                      refine hK.out _ _ ?_
                      exact ⟨(fun jz => if jz = 73 then .int .i64 f else v jz), rfl, ⟨(fun h => hR.st (upd_false h)), hR.s1.keep rfl, hR.w4.keepM rfl (fun h j hj => upd_on (h j hj)), hR.w5.keepM rfl (fun h j hj => upd_on (h j hj)), hR.w8.keepM rfl (fun h j hj => upd_on (h j hj)), hR.w9.keepM rfl (fun h j hj => upd_on (h j hj)), hR.w13.keepM rfl (fun h j hj => upd_on (h j hj)), hR.w14.keepM rfl (fun h j hj => upd_on (h j hj)), hR.w16.keepM rfl (fun h j hj => upd_on (h j hj)), hR.w17.keepM rfl (fun h j hj => upd_on (h j hj)), hR.w18.keepM rfl (fun h j hj => upd_on (h j hj)), hR.w19.keepM rfl (fun h j hj => upd_on (h j hj)), hR.w20.keepM rfl (fun h j hj => upd_on (h j hj)), hR.w21.keepM rfl (fun h j hj => upd_on (h j hj)), hR.f0.keep rfl, hR.f1.keep rfl, hR.f2.keep rfl, hR.f3.keep rfl, hR.f4.keep rfl, hR.f5.keep rfl, hR.f6.keep rfl, hR.f7.keep rfl, hR.f8.keep rfl, hR.f9.keep rfl, (fun _ => rfl), hR.f11.keep rfl, hR.f12.keep rfl, hR.f13.keep rfl, hR.f14.keep rfl, hR.f15.keep rfl, hR.f16.keep rfl, hR.f17.keep rfl, hR.f18.keep rfl, hR.f19.keep rfl, hR.f20.keep rfl⟩⟩
                    refine EachOf.cons [] rfl (by kernel_rfl) ?_ ?_
                    · rintro L A W ⟨v, rfl, hR⟩ hi hw K hK
                      have hk : L 21 = false := hR.w21.not hi rfl
                      go_simp
                      refine hK.out _ _ ?_
                      exact ⟨(fun jz => if jz = 74 then .slice (some ⟨G k, 0, none⟩) (n) (C k) else v jz), rfl, ⟨(fun h => hR.st (upd_false h)), hR.s1.keep rfl, hR.w4.keepM rfl (fun h j hj => upd_on (h j hj)), hR.w5.keepM rfl (fun h j hj => upd_on (h j hj)), hR.w8.keepM rfl (fun h j hj => upd_on (h j hj)), hR.w9.keepM rfl (fun h j hj => upd_on (h j hj)), hR.w13.keepM rfl (fun h j hj => upd_on (h j hj)), hR.w14.keepM rfl (fun h j hj => upd_on (h j hj)), hR.w16.keepM rfl (fun h j hj => upd_on (h j hj)), hR.w17.keepM rfl (fun h j hj => upd_on (h j hj)), hR.w18.keepM rfl (fun h j hj => upd_on (h j hj)), hR.w19.keepM rfl (fun h j hj => upd_on (h j hj)), hR.w20.keepM rfl (fun h j hj => upd_on (h j hj)), hR.w21.keepM rfl (fun h j hj => upd_on (h j hj)), hR.f0.keep rfl, hR.f1.keep rfl, hR.f2.keep rfl, hR.f3.keep rfl, hR.f4.keep rfl, hR.f5.keep rfl, hR.f6.keep rfl, hR.f7.keep rfl, hR.f8.keep rfl, hR.f9.keep rfl, hR.f10.keep rfl, (fun _ => rfl), hR.f12.keep rfl, hR.f13.keep rfl, hR.f14.keep rfl, hR.f15.keep rfl, hR.f16.keep rfl, hR.f17.keep rfl, hR.f18.keep rfl, hR.f19.keep rfl, hR.f20.keep rfl⟩⟩
                    refine EachOf.cons [] rfl (by kernel_rfl) ?_ ?_
                    · rintro L A W ⟨v, rfl, hR⟩ hi hw K hK
                      have hk : L 21 = false := hR.w21.not hi rfl
                      go_simp
                      refine hK.out _ _ ?_
                      exact ⟨(fun jz => if jz = 75 then .int .i64 (j : Int) else v jz), rfl, ⟨(fun h => hR.st (upd_false h)), hR.s1.keep rfl, hR.w4.keepM rfl (fun h j hj => upd_on (h j hj)), hR.w5.keepM rfl (fun h j hj => upd_on (h j hj)), hR.w8.keepM rfl (fun h j hj => upd_on (h j hj)), hR.w9.keepM rfl (fun h j hj => upd_on (h j hj)), hR.w13.keepM rfl (fun h j hj => upd_on (h j hj)), hR.w14.keepM rfl (fun h j hj => upd_on (h j hj)), hR.w16.keepM rfl (fun h j hj => upd_on (h j hj)), hR.w17.keepM rfl (fun h j hj => upd_on (h j hj)), hR.w18.keepM rfl (fun h j hj => upd_on (h j hj)), hR.w19.keepM rfl (fun h j hj => upd_on (h j hj)), hR.w20.keepM rfl (fun h j hj => upd_on (h j hj)), hR.w21.keepM rfl (fun h j hj => upd_on (h j hj)), hR.f0.keep rfl, hR.f1.keep rfl, hR.f2.keep rfl, hR.f3.keep rfl, hR.f4.keep rfl, hR.f5.keep rfl, hR.f6.keep rfl, hR.f7.keep rfl, hR.f8.keep rfl, hR.f9.keep rfl, hR.f10.keep rfl, hR.f11.keep rfl, (fun _ => rfl), hR.f13.keep rfl, hR.f14.keep rfl, hR.f15.keep rfl, hR.f16.keep rfl, hR.f17.keep rfl, hR.f18.keep rfl, hR.f19.keep rfl, hR.f20.keep rfl⟩⟩
                    refine EachOf.cons [11, 12] rfl (by kernel_rfl) ?_ ?_
                    · rintro L A W ⟨v, rfl, hR⟩ hi hw K hK
                      have hk : L 21 = false := hR.w21.not hi rfl
                      have e11 := hR.f11 (hw 11 (by simp))
                      have e12 := hR.f12 (hw 12 (by simp))
                      simp only [e11, e12]
                      clear e11 e12
                      go_simp
                      refine hK.out _ _ ?_
                      exact ⟨(fun jz => if jz = 74 then .slice (some ⟨G k, 0, none⟩) (n) (C k) else if jz = 75 then .int .i64 (j : Int) else if jz = 76 then .pointer (some ⟨G k, j, none⟩) else v jz), rfl, ⟨(fun h => hR.st (upd_false h)), hR.s1.keep rfl, hR.w4.keepM rfl (fun h j hj => upd_on (h j hj)), hR.w5.keepM rfl (fun h j hj => upd_on (h j hj)), hR.w8.keepM rfl (fun h j hj => upd_on (h j hj)), hR.w9.keepM rfl (fun h j hj => upd_on (h j hj)), (fun _ j hj => upd_on (hw j hj)), hR.w14.keepM rfl (fun h j hj => upd_on (h j hj)), hR.w16.keepM rfl (fun h j hj => upd_on (h j hj)), hR.w17.keepM rfl (fun h j hj => upd_on (h j hj)), hR.w18.keepM rfl (fun h j hj => upd_on (h j hj)), hR.w19.keepM rfl (fun h j hj => upd_on (h j hj)), hR.w20.keepM rfl (fun h j hj => upd_on (h j hj)), hR.w21.keepM rfl (fun h j hj => upd_on (h j hj)), hR.f0.keep rfl, hR.f1.keep rfl, hR.f2.keep rfl, hR.f3.keep rfl, hR.f4.keep rfl, hR.f5.keep rfl, hR.f6.keep rfl, hR.f7.keep rfl, hR.f8.keep rfl, hR.f9.keep rfl, hR.f10.keep rfl, (fun _ => rfl), (fun _ => rfl), (fun _ => rfl), hR.f14.keep rfl, hR.f15.keep rfl, hR.f16.keep rfl, hR.f17.keep rfl, hR.f18.keep rfl, hR.f19.keep rfl, hR.f20.keep rfl⟩⟩
                    refine EachOf.cons [13] rfl (by kernel_rfl) ?_ ?_
                    · rintro L A W ⟨v, rfl, hR⟩ hi hw K hK
                      have hk : L 21 = false := hR.w21.not hi rfl
                      have e13 := hR.f13 (hw 13 (by simp))
                      simp only [e13]
                      clear e13
                      have q0 := ((hR.st hk).cell (p := ⟨G k, j, none⟩) LD.out.2).trans LD.out.1
                      go_simp
                      refine hK.out _ _ ?_
                      exact ⟨(fun jz => if jz = 76 then .pointer (some ⟨G k, j, none⟩) else if jz = 77 then .int .i64 vd else v jz), rfl, ⟨(fun h => hR.st (upd_false h)), hR.s1.keep rfl, hR.w4.keepM rfl (fun h j hj => upd_on (h j hj)), hR.w5.keepM rfl (fun h j hj => upd_on (h j hj)), hR.w8.keepM rfl (fun h j hj => upd_on (h j hj)), hR.w9.keepM rfl (fun h j hj => upd_on (h j hj)), hR.w13.keepM rfl (fun h j hj => upd_on (h j hj)), (fun _ j hj => upd_on (hw j hj)), hR.w16.keepM rfl (fun h j hj => upd_on (h j hj)), hR.w17.keepM rfl (fun h j hj => upd_on (h j hj)), hR.w18.keepM rfl (fun h j hj => upd_on (h j hj)), hR.w19.keepM rfl (fun h j hj => upd_on (h j hj)), hR.w20.keepM rfl (fun h j hj => upd_on (h j hj)), hR.w21.keepM rfl (fun h j hj => upd_on (h j hj)), hR.f0.keep rfl, hR.f1.keep rfl, hR.f2.keep rfl, hR.f3.keep rfl, hR.f4.keep rfl, hR.f5.keep rfl, hR.f6.keep rfl, hR.f7.keep rfl, hR.f8.keep rfl, hR.f9.keep rfl, hR.f10.keep rfl, hR.f11.keep rfl, hR.f12.keep rfl, (fun _ => rfl), (fun _ => rfl), hR.f15.keep rfl, hR.f16.keep rfl, hR.f17.keep rfl, hR.f18.keep rfl, hR.f19.keep rfl, hR.f20.keep rfl⟩⟩
                    refine EachOf.cons [] rfl (by kernel_rfl) ?_ ?_
                    · rintro L A W ⟨v, rfl, hR⟩ hi hw K hK
                      have hk : L 21 = false := hR.w21.not hi rfl
                      go_simp
                      refine hK.out _ _ ?_
                      exact ⟨(fun jz => if jz = 78 then .pointer (some ⟨eb, 0, none⟩) else v jz), rfl, ⟨(fun h => hR.st (upd_false h)), hR.s1.keep rfl, hR.w4.keepM rfl (fun h j hj => upd_on (h j hj)), hR.w5.keepM rfl (fun h j hj => upd_on (h j hj)), hR.w8.keepM rfl (fun h j hj => upd_on (h j hj)), hR.w9.keepM rfl (fun h j hj => upd_on (h j hj)), hR.w13.keepM rfl (fun h j hj => upd_on (h j hj)), hR.w14.keepM rfl (fun h j hj => upd_on (h j hj)), hR.w16.keepM rfl (fun h j hj => upd_on (h j hj)), hR.w17.keepM rfl (fun h j hj => upd_on (h j hj)), hR.w18.keepM rfl (fun h j hj => upd_on (h j hj)), hR.w19.keepM rfl (fun h j hj => upd_on (h j hj)), hR.w20.keepM rfl (fun h j hj => upd_on (h j hj)), hR.w21.keepM rfl (fun h j hj => upd_on (h j hj)), hR.f0.keep rfl, hR.f1.keep rfl, hR.f2.keep rfl, hR.f3.keep rfl, hR.f4.keep rfl, hR.f5.keep rfl, hR.f6.keep rfl, hR.f7.keep rfl, hR.f8.keep rfl, hR.f9.keep rfl, hR.f10.keep rfl, hR.f11.keep rfl, hR.f12.keep rfl, hR.f13.keep rfl, hR.f14.keep rfl, (fun _ => rfl), hR.f16.keep rfl, hR.f17.keep rfl, hR.f18.keep rfl, hR.f19.keep rfl, hR.f20.keep rfl⟩⟩
                    refine EachOf.cons [15] rfl (by kernel_rfl) ?_ ?_
                    · rintro L A W ⟨v, rfl, hR⟩ hi hw K hK
                      have hk : L 21 = false := hR.w21.not hi rfl
                      have e15 := hR.f15 (hw 15 (by simp))
                      simp only [e15]
                      clear e15
                      go_simp
                      refine hK.out _ _ ?_
                      exact ⟨(fun jz => if jz = 78 then .pointer (some ⟨eb, 0, none⟩) else if jz = 79 then .pointer (some ⟨eb, 0, none⟩) else v jz), rfl, ⟨(fun h => hR.st (upd_false h)), hR.s1.keep rfl, hR.w4.keepM rfl (fun h j hj => upd_on (h j hj)), hR.w5.keepM rfl (fun h j hj => upd_on (h j hj)), hR.w8.keepM rfl (fun h j hj => upd_on (h j hj)), hR.w9.keepM rfl (fun h j hj => upd_on (h j hj)), hR.w13.keepM rfl (fun h j hj => upd_on (h j hj)), hR.w14.keepM rfl (fun h j hj => upd_on (h j hj)), (fun _ j hj => upd_on (hw j hj)), hR.w17.keepM rfl (fun h j hj => upd_on (h j hj)), hR.w18.keepM rfl (fun h j hj => upd_on (h j hj)), hR.w19.keepM rfl (fun h j hj => upd_on (h j hj)), hR.w20.keepM rfl (fun h j hj => upd_on (h j hj)), hR.w21.keepM rfl (fun h j hj => upd_on (h j hj)), hR.f0.keep rfl, hR.f1.keep rfl, hR.f2.keep rfl, hR.f3.keep rfl, hR.f4.keep rfl, hR.f5.keep rfl, hR.f6.keep rfl, hR.f7.keep rfl, hR.f8.keep rfl, hR.f9.keep rfl, hR.f10.keep rfl, hR.f11.keep rfl, hR.f12.keep rfl, hR.f13.keep rfl, hR.f14.keep rfl, (fun _ => rfl), (fun _ => rfl), hR.f17.keep rfl, hR.f18.keep rfl, hR.f19.keep rfl, hR.f20.keep rfl⟩⟩
                    refine EachOf.cons [16] rfl (by kernel_rfl) ?_ ?_
                    · rintro L A W ⟨v, rfl, hR⟩ hi hw K hK
                      have hk : L 21 = false := hR.w21.not hi rfl
                      have e16 := hR.f16 (hw 16 (by simp))
                      simp only [e16]
                      clear e16
                      go_simp
                      refine hK.out _ _ ?_
                      exact ⟨(fun jz => if jz = 79 then .pointer (some ⟨eb, 0, none⟩) else if jz = 80 then .pointer (some ⟨eb, 2, none⟩) else v jz), rfl, ⟨(fun h => hR.st (upd_false h)), hR.s1.keep rfl, hR.w4.keepM rfl (fun h j hj => upd_on (h j hj)), hR.w5.keepM rfl (fun h j hj => upd_on (h j hj)), hR.w8.keepM rfl (fun h j hj => upd_on (h j hj)), hR.w9.keepM rfl (fun h j hj => upd_on (h j hj)), hR.w13.keepM rfl (fun h j hj => upd_on (h j hj)), hR.w14.keepM rfl (fun h j hj => upd_on (h j hj)), hR.w16.keepM rfl (fun h j hj => upd_on (h j hj)), (fun _ j hj => upd_on (hw j hj)), hR.w18.keepM rfl (fun h j hj => upd_on (h j hj)), hR.w19.keepM rfl (fun h j hj => upd_on (h j hj)), hR.w20.keepM rfl (fun h j hj => upd_on (h j hj)), hR.w21.keepM rfl (fun h j hj => upd_on (h j hj)), hR.f0.keep rfl, hR.f1.keep rfl, hR.f2.keep rfl, hR.f3.keep rfl, hR.f4.keep rfl, hR.f5.keep rfl, hR.f6.keep rfl, hR.f7.keep rfl, hR.f8.keep rfl, hR.f9.keep rfl, hR.f10.keep rfl, hR.f11.keep rfl, hR.f12.keep rfl, hR.f13.keep rfl, hR.f14.keep rfl, hR.f15.keep rfl, (fun _ => rfl), (fun _ => rfl), hR.f18.keep rfl, hR.f19.keep rfl, hR.f20.keep rfl⟩⟩
                    refine EachOf.cons [17] rfl (by kernel_rfl) ?_ ?_
                    · rintro L A W ⟨v, rfl, hR⟩ hi hw K hK
                      have hk : L 21 = false := hR.w21.not hi rfl
                      have e17 := hR.f17 (hw 17 (by simp))
                      simp only [e17]
                      clear e17
                      have q0 := ((hR.st hk).cell (p := ⟨eb, 2, none⟩) LL.out.2).trans LL.out.1
                      go_simp
                      refine hK.out _ _ ?_
                      exact ⟨(fun jz => if jz = 80 then .pointer (some ⟨eb, 2, none⟩) else if jz = 81 then .int .i64 D else v jz), rfl, ⟨(fun h => hR.st (upd_false h)), hR.s1.keep rfl, hR.w4.keepM rfl (fun h j hj => upd_on (h j hj)), hR.w5.keepM rfl (fun h j hj => upd_on (h j hj)), hR.w8.keepM rfl (fun h j hj => upd_on (h j hj)), hR.w9.keepM rfl (fun h j hj => upd_on (h j hj)), hR.w13.keepM rfl (fun h j hj => upd_on (h j hj)), hR.w14.keepM rfl (fun h j hj => upd_on (h j hj)), hR.w16.keepM rfl (fun h j hj => upd_on (h j hj)), hR.w17.keepM rfl (fun h j hj => upd_on (h j hj)), (fun _ j hj => upd_on (hw j hj)), hR.w19.keepM rfl (fun h j hj => upd_on (h j hj)), hR.w20.keepM rfl (fun h j hj => upd_on (h j hj)), hR.w21.keepM rfl (fun h j hj => upd_on (h j hj)), hR.f0.keep rfl, hR.f1.keep rfl, hR.f2.keep rfl, hR.f3.keep rfl, hR.f4.keep rfl, hR.f5.keep rfl, hR.f6.keep rfl, hR.f7.keep rfl, hR.f8.keep rfl, hR.f9.keep rfl, hR.f10.keep rfl, hR.f11.keep rfl, hR.f12.keep rfl, hR.f13.keep rfl, hR.f14.keep rfl, hR.f15.keep rfl, hR.f16.keep rfl, (fun _ => rfl), (fun _ => rfl), hR.f19.keep rfl, hR.f20.keep rfl⟩⟩
                    refine EachOf.cons [5, 9, 10, 14, 18] rfl (by kernel_rfl) ?_ ?_
                    · rintro L A W ⟨v, rfl, hR⟩ hi hw K hK
                      have hk : L 21 = false := hR.w21.not hi rfl
                      have e5 := hR.f5 (hw 5 (by simp))
                      have e9 := hR.f9 (hw 9 (by simp))
                      have e10 := hR.f10 (hw 10 (by simp))
                      have e14 := hR.f14 (hw 14 (by simp))
                      have e18 := hR.f18 (hw 18 (by simp))
                      simp only [e5, e9, e10, e14, e18]
                      clear e5 e9 e10 e14 e18
                      go_simp
                      go_at_call 85
                      (with_reducible refine ((CR _).out).mono ?_)
                      rintro e w2 ⟨rfl, hb⟩
                      go_simp
                      refine hK.out _ _ ?_
                      exact ⟨(fun jz => if jz = 68 then .int .i64 va else if jz = 72 then .int .i64 vb else if jz = 73 then .int .i64 f else if jz = 77 then .int .i64 vd else if jz = 81 then .int .i64 D else if jz = 82 then .int .i64 r else v jz), rfl, ⟨(fun _ => below_on (hR.st hk) hb), (fun h => absurd (upd_back h rfl) (by simp [hk])), hR.w4.keepM rfl (fun h j hj => upd_on (h j hj)), hR.w5.keepM rfl (fun h j hj => upd_on (h j hj)), hR.w8.keepM rfl (fun h j hj => upd_on (h j hj)), hR.w9.keepM rfl (fun h j hj => upd_on (h j hj)), hR.w13.keepM rfl (fun h j hj => upd_on (h j hj)), hR.w14.keepM rfl (fun h j hj => upd_on (h j hj)), hR.w16.keepM rfl (fun h j hj => upd_on (h j hj)), hR.w17.keepM rfl (fun h j hj => upd_on (h j hj)), hR.w18.keepM rfl (fun h j hj => upd_on (h j hj)), (fun _ j hj => upd_on (hw j hj)), hR.w20.keepM rfl (fun h j hj => upd_on (h j hj)), hR.w21.keepM rfl (fun h j hj => upd_on (h j hj)), hR.f0.keep rfl, hR.f1.keep rfl, hR.f2.keep rfl, hR.f3.keep rfl, hR.f4.keep rfl, (fun _ => rfl), hR.f6.keep rfl, hR.f7.keep rfl, hR.f8.keep rfl, (fun _ => rfl), (fun _ => rfl), hR.f11.keep rfl, hR.f12.keep rfl, hR.f13.keep rfl, (fun _ => rfl), hR.f15.keep rfl, hR.f16.keep rfl, hR.f17.keep rfl, (fun _ => rfl), (fun _ => rfl), hR.f20.keep rfl⟩⟩
                    refine EachOf.cons [0, 1] rfl (by kernel_rfl) ?_ ?_
                    · rintro L A W ⟨v, rfl, hR⟩ hi hw K hK
                      have hk : L 21 = false := hR.w21.not hi rfl
                      have e0 := hR.f0 (hw 0 (by simp))
                      have e1 := hR.f1 (hw 1 (by simp))
                      simp only [e0, e1]
                      clear e0 e1
                      go_simp
                      refine hK.out _ _ ?_
                      exact ⟨(fun jz => if jz = 63 then .slice (some ⟨G i, 0, none⟩) (n) (C i) else if jz = 64 then .int .i64 (j : Int) else if jz = 83 then .pointer (some ⟨G i, j, none⟩) else v jz), rfl, ⟨(fun h => hR.st (upd_false h)), hR.s1.keep rfl, hR.w4.keepM rfl (fun h j hj => upd_on (h j hj)), hR.w5.keepM rfl (fun h j hj => upd_on (h j hj)), hR.w8.keepM rfl (fun h j hj => upd_on (h j hj)), hR.w9.keepM rfl (fun h j hj => upd_on (h j hj)), hR.w13.keepM rfl (fun h j hj => upd_on (h j hj)), hR.w14.keepM rfl (fun h j hj => upd_on (h j hj)), hR.w16.keepM rfl (fun h j hj => upd_on (h j hj)), hR.w17.keepM rfl (fun h j hj => upd_on (h j hj)), hR.w18.keepM rfl (fun h j hj => upd_on (h j hj)), hR.w19.keepM rfl (fun h j hj => upd_on (h j hj)), (fun _ j hj => upd_on (hw j hj)), hR.w21.keepM rfl (fun h j hj => upd_on (h j hj)), (fun _ => rfl), (fun _ => rfl), hR.f2.keep rfl, hR.f3.keep rfl, hR.f4.keep rfl, hR.f5.keep rfl, hR.f6.keep rfl, hR.f7.keep rfl, hR.f8.keep rfl, hR.f9.keep rfl, hR.f10.keep rfl, hR.f11.keep rfl, hR.f12.keep rfl, hR.f13.keep rfl, hR.f14.keep rfl, hR.f15.keep rfl, hR.f16.keep rfl, hR.f17.keep rfl, hR.f18.keep rfl, hR.f19.keep rfl, (fun _ => rfl)⟩⟩
                    refine EachOf.cons [0, 1, 2, 3, 4, 5, 6, 7, 8, 9, 10, 11, 12, 13, 14, 15, 16, 17, 18, 19, 20] rfl (by kernel_rfl) ?_ ?_
                    · rintro L A W ⟨v, rfl, hR⟩ hi hw K hK
                      have e20 := hR.f20 (hw 20 (by simp))
                      have e19 := hR.f19 (hw 19 (by simp))
                      simp only [e20, e19]
                      clear e20 e19
                      have q1 := (hR.st hi).cell (p := ⟨G i, j, none⟩) LB.out.2
                      rw [LB.out.1] at q1
                      have q2 := (hR.st hi).frozen (p := ⟨G i, j, none⟩) LB.out.2
                      rw [LF.out] at q2
                      go_simp
                      refine hK.out _ _ ?_
                      exact ⟨(fun jz => if jz = 83 then .pointer (some ⟨G i, j, none⟩) else if jz = 82 then .int .i64 r else v jz), rfl, ⟨(fun h => by simp [upd_self] at h), (fun _ => ⟨W, hR.st hi, rfl⟩), hR.w4.keepM rfl (fun h j hj => upd_on (h j hj)), hR.w5.keepM rfl (fun h j hj => upd_on (h j hj)), hR.w8.keepM rfl (fun h j hj => upd_on (h j hj)), hR.w9.keepM rfl (fun h j hj => upd_on (h j hj)), hR.w13.keepM rfl (fun h j hj => upd_on (h j hj)), hR.w14.keepM rfl (fun h j hj => upd_on (h j hj)), hR.w16.keepM rfl (fun h j hj => upd_on (h j hj)), hR.w17.keepM rfl (fun h j hj => upd_on (h j hj)), hR.w18.keepM rfl (fun h j hj => upd_on (h j hj)), hR.w19.keepM rfl (fun h j hj => upd_on (h j hj)), hR.w20.keepM rfl (fun h j hj => upd_on (h j hj)), (fun _ j hj => upd_on (hw j hj)), hR.f0.keep rfl, hR.f1.keep rfl, hR.f2.keep rfl, hR.f3.keep rfl, hR.f4.keep rfl, hR.f5.keep rfl, hR.f6.keep rfl, hR.f7.keep rfl, hR.f8.keep rfl, hR.f9.keep rfl, hR.f10.keep rfl, hR.f11.keep rfl, hR.f12.keep rfl, hR.f13.keep rfl, hR.f14.keep rfl, hR.f15.keep rfl, hR.f16.keep rfl, hR.f17.keep rfl, hR.f18.keep rfl, (fun _ => rfl), (fun _ => rfl)⟩⟩
                    exact EachOf.nil
                  rintro L A W ⟨v, rfl, hR⟩ hL
                  obtain ⟨W4, hb4, hW⟩ := hR.s1 (hL 21 (by simp))
                  have T1 := (S.out.1.on hb4).set i j hlt hltj r
                  rw [← HR.out, mix_set k i j P E HNE.out, HR.out, ← hW] at T1
                  have T2 : W.cell? ⟨xb, 0, none⟩ = some (.int .i64 c) ∧ xb < W.heap.size := ⟨by
                    rw [hW, World.cell?_setCell_far _ _ _ _ (F3.out i hlt)]
                    exact (hb4.cell (p := ⟨xb, 0, none⟩) S.out.2.1.2).trans S.out.2.1.1, by
                    rw [hW]; simpa using Nat.lt_of_lt_of_le S.out.2.1.2 hb4.size⟩
                  have T3 : Below B0 w W := by
                    rw [hW]
                    exact (below_on2 S.out.2.2 HB0.out hb4).setCell (S.out.1.g.row i hlt).1 _
                  have T := Lib.hid (And.intro T1 (And.intro T2 T3))
                  clear T1 T2 T3 hW hb4 W4 hR hL LX LA LB LD LL LF CR S
                  go_wp2_with fail
                  go_roundg (n - (j + 1))
                  case measure => omega
                  case rel => exact ⟨j + 1, rfl, rfl, by omega, T⟩
                · have e : j = n := by omega
                  have T : Hid (ESt B0 W3 eb b R n Cb G C (mixE k (i + 1) 0 P E) (.slice pa k pc) k p D ∧ (W3.cell? ⟨xb, 0, none⟩ = some (.int .i64 c) ∧ xb < W3.heap.size) ∧ Below B0 w W3) := ⟨S.out.1.congr fun r s hr hs => by rw [e]; exact mix_row k i n r s P E hs, S.out.2⟩
                  clear S
                  subst e
                  go_wp2_with fail
                  go_roundg (R - (i + 1))
                  case measure => omega
                  case rel => exact ⟨i + 1, rfl, rfl, by omega, T⟩
          · have e : i = R := by omega
            subst e
            have T1 : Hid (ESt B0 W2 eb b i n Cb G C P (.slice pa k pc) k p D) := S.out.1.congr fun r s hr hs => mix_end k i r s P E (HP2.out s) hr
            have T2 := Lib.hid S.out.2.1
            have T3 := Lib.hid S.out.2.2
            clear S
            have HN1 : Hid (¬ (Value.slice pa k pc).ownBlock = some eb) := fun e => (T1.out.pb eb e).1 rfl
            have LP : Hid (W2.cell? ⟨eb, 1, none⟩ = some (.slice pa k pc) ∧ eb < W2.heap.size) := ⟨T1.out.e.c1, T1.out.e.hb⟩
            have LPF : Hid (W2.frozen? ⟨eb, 1, none⟩ = false) := T1.out.e.f1
            have LX : Hid (W2.cell? ⟨xb, 0, none⟩ = some (.int .i64 (c : Int)) ∧ xb < W2.heap.size) := T2
            have LO := Lib.hid T1.out.o
            have LB : Hid (B0 ≤ W2.heap.size) := Nat.le_trans HB0.out T3.out.size
            go_upto_region 18 with fail
            refine wp_region_each (fun L A W => ∃ (v : Nat → Value), A = ⟨#[_, _, _, _, _, _, _, _, _, _, _, _, _, _, _, _, _, _, _, _, _, _, _, _, _, _, _, _, _, _, _, _, _, _, _, _, _, _, _, _, _, _, _, _, _, _, _, _, _, _, _, _, _, _, _, _, _, _, _, _, _, _, _, _, _, _, _, _, _, _, _, _, _, _, _, _, _, _, _, _, _, _, _, _, _, _, v 86, v 87, v 88, v 89, v 90, v 91, v 92, v 93, v 94, v 95, _, _, _, _, _, _, _], []⟩ ∧ PvtR B0 eb xb k c pc pa p W2 L v W) (by kernel_rfl) (by kernel_rfl) ⟨fun jz => if jz = 86 then u86 else if jz = 87 then u87 else if jz = 88 then u88 else if jz = 89 then u89 else if jz = 90 then u90 else if jz = 91 then u91 else if jz = 92 then u92 else if jz = 93 then u93 else if jz = 94 then u94 else if jz = 95 then u95 else undef, rfl, ⟨(fun _ => Below.drew (Below.refl _ _)), Had.none, Had.none, Had.none, Had.none, Had.none, Had.none, Had.none, Had.none, Had.none, Had.none, Had.none, Had.none, Had.none, Had.none, Had.none, Had.none, Had.none, Had.none, Had.none⟩⟩ (rs := [0, 1, 2, 3, 4, 5, 6, 7, 8, 9, 10]) (by kernel_rfl) ?_ ?_
            · refine EachOf.cons [] rfl (by kernel_rfl) ?_ ?_
              · rintro L A W ⟨v, rfl, hR⟩ hi hw K hK
                go_simp
                refine hK.out _ _ ?_
                exact ⟨(fun jz => if jz = 86 then .pointer (some ⟨eb, 0, none⟩) else v jz), rfl, ⟨(fun h => hR.st (upd_false h)), hR.xB.keepM rfl (fun h hx => h (upd_false hx)), hR.xA.keepM rfl (fun h hx => h (upd_false hx)), hR.s1.keep rfl, hR.w2.keepM rfl (fun h j hj => upd_on (h j hj)), hR.w3.keepM rfl (fun h j hj => upd_on (h j hj)), hR.w4.keepM rfl (fun h j hj => upd_on (h j hj)), hR.w6.keepM rfl (fun h j hj => upd_on (h j hj)), hR.w7.keepM rfl (fun h j hj => upd_on (h j hj)), hR.w8.keepM rfl (fun h j hj => upd_on (h j hj)), hR.w9.keepM rfl (fun h j hj => upd_on (h j hj)), hR.w10.keepM rfl (fun h j hj => upd_on (h j hj)), (fun _ => rfl), hR.f1.keep rfl, hR.f2.keep rfl, hR.f3.keep rfl, hR.f4.keep rfl, hR.f5.keep rfl, hR.f8.keep rfl, hR.f9.keep rfl⟩⟩
              refine EachOf.cons [] rfl (by kernel_rfl) ?_ ?_
              · rintro L A W ⟨v, rfl, hR⟩ hi hw K hK
                have hk : L 7 = false := hR.w7.not (hR.w4.not (hR.w3.not (hR.w2.not hi rfl) rfl) rfl) rfl
                go_simp
                refine hK.out _ _ ?_
                exact ⟨(fun jz => if jz = 87 then .pointer (some ⟨eb, 0, none⟩) else v jz), rfl, ⟨(fun h => hR.st (upd_false h)), hR.xB.keepM rfl (fun h hx => h (upd_false hx)), hR.xA.keepM rfl (fun h hx => h (upd_false hx)), hR.s1.keep rfl, hR.w2.keepM rfl (fun h j hj => upd_on (h j hj)), hR.w3.keepM rfl (fun h j hj => upd_on (h j hj)), hR.w4.keepM rfl (fun h j hj => upd_on (h j hj)), hR.w6.keepM rfl (fun h j hj => upd_on (h j hj)), hR.w7.keepM rfl (fun h j hj => upd_on (h j hj)), hR.w8.keepM rfl (fun h j hj => upd_on (h j hj)), hR.w9.keepM rfl (fun h j hj => upd_on (h j hj)), hR.w10.keepM rfl (fun h j hj => upd_on (h j hj)), hR.f0.keep rfl, (fun _ => rfl), hR.f2.keep rfl, hR.f3.keep rfl, hR.f4.keep rfl, hR.f5.keep rfl, hR.f8.keep rfl, hR.f9.keep rfl⟩⟩
              refine EachOf.cons [1] rfl (by kernel_rfl) ?_ ?_
              · rintro L A W ⟨v, rfl, hR⟩ hi hw K hK
                have hk : L 7 = false := hR.w7.not (hR.w4.not (hR.w3.not hi rfl) rfl) rfl
                have e1 := hR.f1 (hw 1 (by simp))
                simp only [e1]
                clear e1
                go_simp
                refine hK.out _ _ ?_
                exact ⟨(fun jz => if jz = 87 then .pointer (some ⟨eb, 0, none⟩) else if jz = 88 then .pointer (some ⟨eb, 0, none⟩) else v jz), rfl, ⟨(fun h => hR.st (upd_false h)), hR.xB.keepM rfl (fun h hx => h (upd_false hx)), hR.xA.keepM rfl (fun h hx => h (upd_false hx)), hR.s1.keep rfl, (fun _ j hj => upd_on (hw j hj)), hR.w3.keepM rfl (fun h j hj => upd_on (h j hj)), hR.w4.keepM rfl (fun h j hj => upd_on (h j hj)), hR.w6.keepM rfl (fun h j hj => upd_on (h j hj)), hR.w7.keepM rfl (fun h j hj => upd_on (h j hj)), hR.w8.keepM rfl (fun h j hj => upd_on (h j hj)), hR.w9.keepM rfl (fun h j hj => upd_on (h j hj)), hR.w10.keepM rfl (fun h j hj => upd_on (h j hj)), hR.f0.keep rfl, (fun _ => rfl), (fun _ => rfl), hR.f3.keep rfl, hR.f4.keep rfl, hR.f5.keep rfl, hR.f8.keep rfl, hR.f9.keep rfl⟩⟩
              refine EachOf.cons [2] rfl (by kernel_rfl) ?_ ?_
              · rintro L A W ⟨v, rfl, hR⟩ hi hw K hK
                have hk : L 7 = false := hR.w7.not (hR.w4.not hi rfl) rfl
                have e2 := hR.f2 (hw 2 (by simp))
                simp only [e2]
                clear e2
                go_simp
                refine hK.out _ _ ?_
                exact ⟨(fun jz => if jz = 88 then .pointer (some ⟨eb, 0, none⟩) else if jz = 89 then .pointer (some ⟨eb, 1, none⟩) else v jz), rfl, ⟨(fun h => hR.st (upd_false h)), hR.xB.keepM rfl (fun h hx => h (upd_false hx)), hR.xA.keepM rfl (fun h hx => h (upd_false hx)), hR.s1.keep rfl, hR.w2.keepM rfl (fun h j hj => upd_on (h j hj)), (fun _ j hj => upd_on (hw j hj)), hR.w4.keepM rfl (fun h j hj => upd_on (h j hj)), hR.w6.keepM rfl (fun h j hj => upd_on (h j hj)), hR.w7.keepM rfl (fun h j hj => upd_on (h j hj)), hR.w8.keepM rfl (fun h j hj => upd_on (h j hj)), hR.w9.keepM rfl (fun h j hj => upd_on (h j hj)), hR.w10.keepM rfl (fun h j hj => upd_on (h j hj)), hR.f0.keep rfl, hR.f1.keep rfl, (fun _ => rfl), (fun _ => rfl), hR.f4.keep rfl, hR.f5.keep rfl, hR.f8.keep rfl, hR.f9.keep rfl⟩⟩
              refine EachOf.cons [3] rfl (by kernel_rfl) ?_ ?_
              · rintro L A W ⟨v, rfl, hR⟩ hi hw K hK
                have hk : L 7 = false := hR.w7.not hi rfl
                have e3 := hR.f3 (hw 3 (by simp))
                simp only [e3]
                clear e3
                have q0 := ((hR.st hk).cell (p := ⟨eb, 1, none⟩) LP.out.2).trans LP.out.1
                go_simp
                refine hK.out _ _ ?_
                exact ⟨(fun jz => if jz = 89 then .pointer (some ⟨eb, 1, none⟩) else if jz = 90 then .slice pa k pc else v jz), rfl, ⟨(fun h => hR.st (upd_false h)), hR.xB.keepM rfl (fun h hx => h (upd_false hx)), hR.xA.keepM rfl (fun h hx => h (upd_false hx)), hR.s1.keep rfl, hR.w2.keepM rfl (fun h j hj => upd_on (h j hj)), hR.w3.keepM rfl (fun h j hj => upd_on (h j hj)), (fun _ j hj => upd_on (hw j hj)), hR.w6.keepM rfl (fun h j hj => upd_on (h j hj)), hR.w7.keepM rfl (fun h j hj => upd_on (h j hj)), hR.w8.keepM rfl (fun h j hj => upd_on (h j hj)), hR.w9.keepM rfl (fun h j hj => upd_on (h j hj)), hR.w10.keepM rfl (fun h j hj => upd_on (h j hj)), hR.f0.keep rfl, hR.f1.keep rfl, hR.f2.keep rfl, (fun _ => rfl), (fun _ => rfl), hR.f5.keep rfl, hR.f8.keep rfl, hR.f9.keep rfl⟩⟩
              refine EachOf.cons [] rfl (by kernel_rfl) ?_ ?_
              · rintro L A W ⟨v, rfl, hR⟩ hi hw K hK
                have hk : L 7 = false := hR.w7.not (hR.w6.not hi rfl) rfl
                have q0 := ((hR.st hk).cell (p := ⟨xb, 0, none⟩) LX.out.2).trans LX.out.1
                go_simp
                refine hK.out _ _ ?_
                exact ⟨(fun jz => if jz = 91 then .int .i64 (c : Int) else v jz), rfl, ⟨(fun h => hR.st (upd_false h)), hR.xB.keepM rfl (fun h hx => h (upd_false hx)), hR.xA.keepM rfl (fun h hx => h (upd_false hx)), hR.s1.keep rfl, hR.w2.keepM rfl (fun h j hj => upd_on (h j hj)), hR.w3.keepM rfl (fun h j hj => upd_on (h j hj)), hR.w4.keepM rfl (fun h j hj => upd_on (h j hj)), hR.w6.keepM rfl (fun h j hj => upd_on (h j hj)), hR.w7.keepM rfl (fun h j hj => upd_on (h j hj)), hR.w8.keepM rfl (fun h j hj => upd_on (h j hj)), hR.w9.keepM rfl (fun h j hj => upd_on (h j hj)), hR.w10.keepM rfl (fun h j hj => upd_on (h j hj)), hR.f0.keep rfl, hR.f1.keep rfl, hR.f2.keep rfl, hR.f3.keep rfl, hR.f4.keep rfl, (fun _ => rfl), hR.f8.keep rfl, hR.f9.keep rfl⟩⟩
              refine EachOf.cons [5] rfl (by kernel_rfl) ?_ ?_
              · rintro L A W ⟨v, rfl, hR⟩ hi hw K hK
                have hk : L 7 = false := hR.w7.not hi rfl
                have hk_xA : L 7 = false := hR.w7.not hi rfl
                have hk_s1 : L 10 = false := hR.w10.not hi rfl
                have e5 := hR.f5 (hw 5 (by simp))
                simp only [e5]
                clear e5
                go_simp
                refine hK.out _ _ ?_
                exact ⟨(fun jz => if jz = 91 then .int .i64 (c : Int) else if jz = 92 then .slice (some ⟨W.heap.size, 0, none⟩) 1 1 else v jz), rfl, ⟨(fun _ => (hR.st hk).alloc (hR.st hk).size _), (fun _ _ => ⟨W.heap.size, rfl, by simp⟩), (fun h => absurd (upd_back h rfl) (by simp [hk_xA])), (fun h => absurd (upd_back h rfl) (by simp [hk_s1])), hR.w2.keepM rfl (fun h j hj => upd_on (h j hj)), hR.w3.keepM rfl (fun h j hj => upd_on (h j hj)), hR.w4.keepM rfl (fun h j hj => upd_on (h j hj)), (fun _ j hj => upd_on (hw j hj)), hR.w7.keepM rfl (fun h j hj => upd_on (h j hj)), hR.w8.keepM rfl (fun h j hj => upd_on (h j hj)), hR.w9.keepM rfl (fun h j hj => upd_on (h j hj)), hR.w10.keepM rfl (fun h j hj => upd_on (h j hj)), hR.f0.keep rfl, hR.f1.keep rfl, hR.f2.keep rfl, hR.f3.keep rfl, hR.f4.keep rfl, (fun _ => rfl), hR.f8.keep rfl, hR.f9.keep rfl⟩⟩
              refine EachOf.cons [4, 6] rfl (by kernel_rfl) ?_ ?_
              · rintro L A W ⟨v, rfl, hR⟩ hi hw K hK
                have hk : L 7 = false := hi
                have hk_s1 : L 10 = false := hR.w10.not hi rfl
                have e4 := hR.f4 (hw 4 (by simp))
                simp only [e4]
                clear e4
                obtain ⟨B, e92, hB⟩ := hR.xB (hw 6 (by simp)) hi
                simp only [e92]
                have hb := hR.st hi
                have ho := own_only LO.out (Only.of_below (S := fun _ => False) hb) (fun _ _ q => q)
                obtain ⟨i0, hi0, hz0, hz1, hz2⟩ := info_parts (show (Try.prog.info? 3).map (fun i => (i.zero, i.size, i.bytes)) = some (some (Value.int IntKind.i64 0), 1, 8) by kernel_rfl)
                simp only [List.getElem_toArray, List.getElem_cons_succ, List.getElem_cons_zero]
                rw [if_pos (show Region.wanted _ _ = true by rfl)]
                refine wp_append_lies W _ _ 29 (by rfl) B0 3 i0 (.int .i64 0) 1 8 Try.underlying29 hi0 hz0 hz1 hz2 rfl (by decide) (.slice pa k pc) k _ (by rfl) ho ⟨B, 0, none⟩ 1 1 [.int .i64 (c : Int)] (by rfl) rfl (one_news hB) (by intro u hu; simp at hu; subst hu; rfl) (by omega) (by unfold maxLen; omega) (by omega) (Nat.le_trans LB.out hb.size) _ rfl ?_
                intro g cap w1 hown hgrow hat hlt
                refine hK.out _ _ ?_
                exact ⟨(fun jz => if jz = 90 then .slice pa k pc else if jz = 92 then .slice (some ⟨B, 0, none⟩) 1 1 else if jz = 93 then .slice (some ⟨g, 0, none⟩) (k + 1) cap else v jz), rfl, ⟨(fun h => by simp [upd_self] at h), (fun _ h => by simp [upd_self] at h), (fun _ _ => AppW.make hb hgrow hown hat hlt), (fun h => absurd (upd_back h rfl) (by simp [hk_s1])), hR.w2.keepM rfl (fun h j hj => upd_on (h j hj)), hR.w3.keepM rfl (fun h j hj => upd_on (h j hj)), hR.w4.keepM rfl (fun h j hj => upd_on (h j hj)), hR.w6.keepM rfl (fun h j hj => upd_on (h j hj)), (fun _ j hj => upd_on (hw j hj)), hR.w8.keepM rfl (fun h j hj => upd_on (h j hj)), hR.w9.keepM rfl (fun h j hj => upd_on (h j hj)), hR.w10.keepM rfl (fun h j hj => upd_on (h j hj)), hR.f0.keep rfl, hR.f1.keep rfl, hR.f2.keep rfl, hR.f3.keep rfl, (fun _ => rfl), hR.f5.keep rfl, hR.f8.keep rfl, hR.f9.keep rfl⟩⟩
              refine EachOf.cons [0] rfl (by kernel_rfl) ?_ ?_
              · rintro L A W ⟨v, rfl, hR⟩ hi hw K hK
                have e0 := hR.f0 (hw 0 (by simp))
                simp only [e0]
                clear e0
                go_simp
                refine hK.out _ _ ?_
                exact ⟨(fun jz => if jz = 86 then .pointer (some ⟨eb, 0, none⟩) else if jz = 94 then .pointer (some ⟨eb, 0, none⟩) else v jz), rfl, ⟨(fun h => hR.st (upd_false h)), hR.xB.keepM rfl (fun h hx => h (upd_false hx)), hR.xA.keepM rfl (fun h hx => h (upd_false hx)), hR.s1.keep rfl, hR.w2.keepM rfl (fun h j hj => upd_on (h j hj)), hR.w3.keepM rfl (fun h j hj => upd_on (h j hj)), hR.w4.keepM rfl (fun h j hj => upd_on (h j hj)), hR.w6.keepM rfl (fun h j hj => upd_on (h j hj)), hR.w7.keepM rfl (fun h j hj => upd_on (h j hj)), (fun _ j hj => upd_on (hw j hj)), hR.w9.keepM rfl (fun h j hj => upd_on (h j hj)), hR.w10.keepM rfl (fun h j hj => upd_on (h j hj)), (fun _ => rfl), hR.f1.keep rfl, hR.f2.keep rfl, hR.f3.keep rfl, hR.f4.keep rfl, hR.f5.keep rfl, (fun _ => rfl), hR.f9.keep rfl⟩⟩
              refine EachOf.cons [8] rfl (by kernel_rfl) ?_ ?_
              · rintro L A W ⟨v, rfl, hR⟩ hi hw K hK
                have e8 := hR.f8 (hw 8 (by simp))
                simp only [e8]
                clear e8
                go_simp
                refine hK.out _ _ ?_
                exact ⟨(fun jz => if jz = 94 then .pointer (some ⟨eb, 0, none⟩) else if jz = 95 then .pointer (some ⟨eb, 1, none⟩) else v jz), rfl, ⟨(fun h => hR.st (upd_false h)), hR.xB.keepM rfl (fun h hx => h (upd_false hx)), hR.xA.keepM rfl (fun h hx => h (upd_false hx)), hR.s1.keep rfl, hR.w2.keepM rfl (fun h j hj => upd_on (h j hj)), hR.w3.keepM rfl (fun h j hj => upd_on (h j hj)), hR.w4.keepM rfl (fun h j hj => upd_on (h j hj)), hR.w6.keepM rfl (fun h j hj => upd_on (h j hj)), hR.w7.keepM rfl (fun h j hj => upd_on (h j hj)), hR.w8.keepM rfl (fun h j hj => upd_on (h j hj)), (fun _ j hj => upd_on (hw j hj)), hR.w10.keepM rfl (fun h j hj => upd_on (h j hj)), hR.f0.keep rfl, hR.f1.keep rfl, hR.f2.keep rfl, hR.f3.keep rfl, hR.f4.keep rfl, hR.f5.keep rfl, (fun _ => rfl), (fun _ => rfl)⟩⟩
              refine EachOf.cons [0, 1, 2, 3, 4, 5, 6, 7, 9] rfl (by kernel_rfl) ?_ ?_
              · rintro L A W ⟨v, rfl, hR⟩ hi hw K hK
                have e9 := hR.f9 (hw 9 (by simp))
                simp only [e9]
                clear e9
                have hA := hR.xA (hw 7 (by simp)) hi
                obtain ⟨g, cap, hz, _, _⟩ := hA.form
                have q1 : W.cell? ⟨eb, 1, none⟩ = some (.slice pa k pc) := (hA.only.cell (p := ⟨eb, 1, none⟩) LP.out.2 HN1.out).trans LP.out.1
                have q2 : W.frozen? ⟨eb, 1, none⟩ = false := (hA.only.frozen (p := ⟨eb, 1, none⟩) LP.out.2 HN1.out).trans LPF.out
                rw [hz] at hA
                have HA2 := Lib.hid hA
                clear hA
                simp only [hz]
                clear hz
                go_simp
                refine hK.out _ _ ?_
                exact ⟨(fun jz => if jz = 95 then .pointer (some ⟨eb, 1, none⟩) else if jz = 93 then .slice (some ⟨g, 0, none⟩) (k + 1) cap else v jz), rfl, ⟨(fun h => absurd (hw 7 (by simp)) (by simp [upd_false h])), (fun _ h => absurd (hw 7 (by simp)) (by simp [upd_false h])), (fun _ h => by simp [upd_self] at h), (fun _ => ⟨W, _, HA2.out, rfl⟩), hR.w2.keepM rfl (fun h j hj => upd_on (h j hj)), hR.w3.keepM rfl (fun h j hj => upd_on (h j hj)), hR.w4.keepM rfl (fun h j hj => upd_on (h j hj)), hR.w6.keepM rfl (fun h j hj => upd_on (h j hj)), hR.w7.keepM rfl (fun h j hj => upd_on (h j hj)), hR.w8.keepM rfl (fun h j hj => upd_on (h j hj)), hR.w9.keepM rfl (fun h j hj => upd_on (h j hj)), (fun _ j hj => upd_on (hw j hj)), hR.f0.keep rfl, hR.f1.keep rfl, hR.f2.keep rfl, hR.f3.keep rfl, hR.f4.keep rfl, hR.f5.keep rfl, hR.f8.keep rfl, (fun _ => rfl)⟩⟩
              exact EachOf.nil
            rintro L A W ⟨v, rfl, hR⟩ hL
            obtain ⟨W4, z, hA, hW⟩ := hR.s1 (hL 10 (by simp))
            have T4 := T1.out.push c hA
            rw [← hW] at T4
            have X4 : W.cell? ⟨xb, 0, none⟩ = some (.int .i64 (c : Int)) := by
              rw [hW, World.cell?_setCell_far _ _ _ _ (fun e => HN3.out e.symm)]
              exact (hA.only.cell (p := ⟨xb, 0, none⟩) LX.out.2 (fun e => HN4.out xb e rfl)).trans LX.out.1
            have B4 : Below B0 w W := by
              rw [hW]
              exact (T3.out.trans (hA.only.below LB.out (fun q hq => (LO.out.lt q hq).1))).setCell T1.out.le _
            have HT4 := Lib.hid T4
            have HB4 := Lib.hid B4
            have p1 := HT4.out.g.cell k c hkR2 hc
            rw [HP2.out c] at p1
            have p2 := HT4.out.e.c2
            have p3 := HT4.out.e.f2
            clear T4 B4 hW hA hR hL LP LPF LX LO T1 T2 T3
            go_wp2_with fail
            go_end0
            exact ⟨rfl, HB4.out.setCell HT4.out.le _, G, C, U, P, z, k + 1, updP p k c, E k c, HT4.out.last _, HP1.out⟩

end Go.Proofs.Ytjggnmbdgagkoaa
