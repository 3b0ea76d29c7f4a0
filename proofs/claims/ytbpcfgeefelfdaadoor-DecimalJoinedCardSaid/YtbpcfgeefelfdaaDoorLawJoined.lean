/- The walk of the law DecimalJoined. -/
import Derived.Test.YtbpcfgeefelfdaaDoorAwake
import Derived.Test.YtbpcfgeefelfdaaDoorJoined1
namespace Go.Proofs.YtbpcfgeefelfdaaDoor
open Go.RowKit

theorem Has.below' {w w' : World} {B g : Nat} {t : TypeId} {cs : Array Value} (h : Has w g t cs) (hb : Below B w w') (hg : g < B) : Has w' g t cs := (hb.block g hg).trans h

theorem strInfo : (Tryd.prog.info? 9).map (fun i => (i.zero, i.size, i.bytes)) = some (some (.string ⟨#[]⟩), 1, 16) := by kernel_rfl

theorem own_drewN {w : World} {base size n : Nat} {e : TypeId} {v : Value} {xs : List Value} (h : w.ownsRow base e size v n xs) (k : Nat) : (w.drewN k).ownsRow base e size v n xs := h

theorem has_prefix (x p : ByteArray) (w : World) (h : Lib.hasPrefix x.data.toList p.data.toList = true) :
    Calls Tryd.prog 7 #[.string x, .string p] w fun e w' => e = .returned (.bool true) ∧ w' = w :=
  (Tryd.strings_HasPrefix x p w).mono fun e w' ⟨he, hw⟩ => ⟨by rw [he, h], hw⟩

theorem one_new (w : World) (v : Value) (t : TypeId) (n : Nat) (hn : w.heap.size = n) : ∀ j u, [v][j]? = some u → (w.alloc (.cells #[v] t)).cell? ((⟨n, 0, none⟩ : Addr).add j) = some u := by
  subst hn
  intro j u hj
  match j, hj with
  | 0, hj =>
    simp at hj
    rw [← hj]
    simp [Addr.add]
  | j + 1, hj => simp at hj

theorem part_take (ts : List Tok) (k : Nat) (t : Tok) (h : ts[k]? = some t) : partCells (ts.take (k + 1)) = partCells (ts.take k) ++ [.string (bytesOf (part t))] := by
  obtain ⟨hk, rfl⟩ := List.getElem?_eq_some_iff.1 h
  unfold partCells
  rw [List.take_succ_eq_append_getElem hk, List.map_append]
  rfl

theorem own_strs {w : World} {base : Nat} {v : Value} {n : Nat} {ts : List Tok} (h : w.ownsRow base 9 1 v n (partCells ts)) (hn : 0 < n) :
    ∃ g c, v = .slice (some ⟨g, 0, none⟩) n c ∧ g < w.heap.size ∧ n ≤ c ∧ ∀ j x, (ts.map fun t => bytesOf (part t))[j]? = some x → w.cell? ⟨g, 0 + j, none⟩ = some (.string x) := by
  have h' := h
  rcases h.2 with ⟨_, h0⟩ | ⟨g, c, cur, rfl, hb, hg, hnc, _⟩
  · omega
  · refine ⟨g, c, rfl, lt_of_block hg, hnc, fun j x hx => ?_⟩
    have := h'.cells (g := g) rfl j (.string x) (by
      unfold partCells
      rw [List.getElem?_map] at hx ⊢
      obtain ⟨t, ht, rfl⟩ := Option.map_eq_some_iff.1 hx
      rw [ht]
      rfl)
    rw [show (⟨g, 0, none⟩ : Addr).add j = ⟨g, 0 + j, none⟩ from by unfold Addr.add; split <;> simp_all] at this
    exact this

theorem join_call (g c N : Nat) (xs : List ByteArray) (sep : ByteArray) (l : List UInt8) (w : World) (hN : xs.length = N) (hl : Lib.join (xs.map (·.data.toList)) sep.data.toList = l)
    (hcells : ∀ (j : Nat) x, xs[j]? = some x → w.cell? ⟨g, 0 + j, none⟩ = some (.string x)) (hg : g < w.heap.size) (hN2 : N ≤ 1001) (hc : N ≤ c) (hll : l.length ≤ 2000) :
    Calls Tryd.prog 8 #[.slice (some ⟨g, 0, none⟩) N c, .string sep] w fun e w' => e = .returned (.string (bytesOf l)) ∧ Below w.heap.size w w' := by
  subst hN hl
  exact Tryd.strings_Join g 0 c xs sep w hcells hg (by omega) hc (by omega)

set_option maxRecDepth 100000 in
set_option maxHeartbeats 4000000 in
theorem joined_walk (s : ByteArray) (_ : s.size ≤ maxLen) (w : World) (m : Int) (hm : w.cell? ⟨0, 0, none⟩ = some (.int .i64 m)) :
    Calls Tryd.prog 3 #[.string s] w fun e w' => e = .returned (.bool true) ∧ Below w.heap.size w w' := by
  have h0w : 0 < w.heap.size := World.block_lt_of_cell? w _ hm
  have Hm := Lib.hid hm
  clear hm
  by_cases hs : s.size ≤ 1000
  · have hsi : ¬ (1000 : Int) < (s.size : Int) := by omega
    obtain ⟨T, hT⟩ : ∃ T, T = tokGo s.size [] 1 1 s.data.toList := ⟨_, rfl⟩
    go_enter Tryd.func3, Tryd.ntmps3
    go_wp2_with fail
    refine (awake_any _).mono ?_
    rintro e w1 ⟨rfl, hb1⟩
    have Hb1 := Lib.hid hb1
    clear hb1
    go_wp2_with fail
    refine (Tokens_any s _ (by omega)).mono ?_
    rintro e w2 ⟨ho, hb2⟩
    have Hb2 := Lib.hid (Hb1.out.trans (hb2.mono Hb1.out.size))
    clear hb2 Hb1
    rw [← hT] at ho
    have HT := Lib.hid hT
    cases T with
    | all ts =>
      obtain ⟨ts0, l', c', K⟩ := known s ts hT.symm
      have hne := tokGo_ne' _ _ _ _ _ _ hT.symm
      have hln := K.len
      have hlen0 : ts.length = ts0.length + 1 := by rw [K.eq]; simp
      have hlast : ts[ts0.length]? = some ⟨5, [], l', c'⟩ := by rw [K.eq]; simp
      obtain ⟨v1, rfl, hown1⟩ := ho
      obtain ⟨g1, c1, rfl, hg1, hc1⟩ := own_cells' hown1 hne
      have HK := Lib.hid K
      have Hc1 := Lib.hid hc1
      have hz2 := Hb2.out.size
      have k5 : w2.cell? ⟨g1, ts0.length * 4, none⟩ = some (.int .i64 5) := hc1 _ _ (acc_at' ts ts0.length 0 _ hlast (by omega))
      obtain ⟨n0, hn0⟩ : ∃ n0, n0 = ts0.length := ⟨_, rfl⟩
      rw [← hn0] at k5 hlen0
      have hN1 : (ts.length : Int) - 1 = (n0 : Int) := by omega
      have hN2 : (n0 : Int) < (ts.length : Int) := by omega
      have hN3 : ((ts.length : Int) == 0) = false := by rw [beq_eq_false_iff_ne]; omega
      have Hlen0 := Lib.hid hlen0
      clear hT hne hown1 hc1 K hlast hn0 hlen0
      go_wp2_with fail
      refine (Tryd.strings_Split s ⟨#[10]⟩ m _ (by omega) ((World.cell?_alloc_lt w2 _ _ (by show 0 < w2.heap.size; omega)).trans ((Hb2.out.cell (p := ⟨0, 0, none⟩) h0w).trans Hm.out)) (by decide)).mono ?_
      rintro e w3 ⟨he, hw3⟩
      obtain ⟨M, hM⟩ : ∃ M, M = Lib.countB s ⟨#[10]⟩ + 1 := ⟨_, rfl⟩
      obtain ⟨b3, hb3⟩ : ∃ b3, b3 = w2.heap.size + 1 := ⟨_, rfl⟩
      have he' : e = .returned (.slice (some ⟨b3, 0, none⟩) M M) := by subst hM hb3; simpa using he
      subst he'
      have hz3 : w3.heap.size = w2.heap.size + 2 := by rw [hw3]; simp
      have hlines : (linesB s).length = M := by rw [linesB_len, hM]
      have HLn := Lib.hid (show ∀ (j : Nat) (x : ByteArray), (linesB s)[j]? = some x → w3.cell? ⟨b3, j, none⟩ = some (.string x) from fun j x hx => by
        have hh : w3.heap[b3]? = some (.cells ((linesB s).map Value.string).toArray 9 (0, 0)) := by
          rw [hw3, hb3]
          have := heap_alloc_new (w2.alloc (.cells #[.int .i64 0, .int .i64 0] 25)) (.cells ((linesB s).map Value.string).toArray 9)
          simpa [linesB] using this
        rw [cell_of_row w3 b3 j _ _ _ hh, List.getElem?_toArray, List.getElem?_map, hx]
        rfl)
      have Hc3 := Lib.hid (show ∀ (j : Nat) (u : Value), (accCells ts)[j]? = some u → w3.cell? ⟨g1, j, none⟩ = some u from fun j u h => by
        rw [hw3]
        rw [World.cell?_alloc_lt _ _ _ (by show g1 < _; simp; omega), World.cell?_alloc_lt _ _ _ (by show g1 < _; omega)]
        exact Hc1.out j u h)
      have Hb3 := Lib.hid (show Below w.heap.size w w3 from by rw [hw3]; exact (Hb2.out.alloc Hb2.out.size _).alloc (by simp; omega) _)
      have hg3 : g1 < w3.heap.size := by omega
      have hb3' : b3 < w3.heap.size := by omega
      have hMb : M ≤ 1001 := by have := linesB_le s; omega
      have hMs := Lib.hid hlines
      clear he hM hw3 hlines k5 Hb2 hb3
      obtain ⟨i0, hi, hi0, hi1, hi2⟩ := info_parts strInfo
      go_wp2_with fail
      go_loopw [7, 47] (fun u7 u47 wr => ∃ k : Nat, u47 = .int .i64 k ∧ k ≤ ts.length ∧ wr.ownsRow w3.heap.size 9 1 u7 k (partCells (ts.take k)) ∧ Below w3.heap.size w3 wr) (fun _ u47 _ => ts.length - (intOf u47).toNat)
      case atStart => exact ⟨0, rfl, Nat.zero_le _, World.ownsRow_nil _ _ _ _, Below.refl _ _⟩
      case round =>
        obtain ⟨k, rfl, hk, hown, hb⟩ := hrel
        have Hb := Lib.hid hb
        have Hown := Lib.hid hown
        have hz := hb.size
        clear hb hown
        by_cases hlt : k < ts.length
        · have hki : (k : Int) < (ts.length : Int) := by omega
          have ht : ts[k]? = some ts[k] := List.getElem?_eq_getElem hlt
          obtain ⟨t, hT⟩ : ∃ t, t = ts[k] := ⟨_, rfl⟩
          rw [← hT] at ht
          obtain ⟨ln, cl, x, A⟩ := HK.out.at' t (List.mem_of_getElem? ht)
          have hln' : ln < M := by
            have := (List.getElem?_eq_some_iff.1 A.get).1
            have := hMs.out
            omega
          have hz1 : g1 < wr.heap.size := by omega
          have hz2' : b3 < wr.heap.size := by omega
          have b1 := fun j => Hb.out.cell (p := ⟨g1, j, none⟩) hg3
          have a0 : wr.cell? ⟨g1, k * 4, none⟩ = some (.int .i64 t.kind) := (b1 _).trans (Hc3.out _ _ (acc_at' ts k 0 t ht (by omega)))
          have a1 : wr.cell? ⟨g1, k * 4 + 1, none⟩ = some (.string (bytesOf t.text)) := (b1 _).trans (Hc3.out _ _ (acc_at' ts k 1 t ht (by omega)))
          have a2 : wr.cell? ⟨g1, k * 4 + 2, none⟩ = some (.int .i64 t.line) := (b1 _).trans (Hc3.out _ _ (acc_at' ts k 2 t ht (by omega)))
          have a3 : wr.cell? ⟨g1, k * 4 + 3, none⟩ = some (.int .i64 t.col) := (b1 _).trans (Hc3.out _ _ (acc_at' ts k 3 t ht (by omega)))
          have a4 : wr.cell? ⟨b3, ln, none⟩ = some (.string x) := (Hb.out.cell (p := ⟨b3, ln, none⟩) hb3').trans (HLn.out _ _ A.get)
          have hcases : (decide ((0 : Int) < (k : Int)) = false ∧ decide (0 < k) = false) ∨
              (∃ j pl pc : Nat, ((0 : Int) < (k : Int) ∧ 0 < k ∧ (k : Int) - 1 = (j : Int) ∧ (j : Int) < (ts.length : Int) ∧ wr.cell? ⟨g1, j * 4 + 2, none⟩ = some (.int .i64 pl) ∧ wr.cell? ⟨g1, j * 4 + 3, none⟩ = some (.int .i64 pc) ∧ decide ((t.line : Int) < (pl : Int)) = false ∧ decide (t.line < pl) = false) ∧
                ((((t.line : Int) == (pl : Int)) = false ∧ (t.line == pl) = false) ∨ (((t.line : Int) == (pl : Int)) = true ∧ (t.line == pl) = true ∧ decide ((t.col : Int) ≤ (pc : Int)) = false ∧ decide (t.col ≤ pc) = false))) := by
            rcases Nat.eq_zero_or_pos k with h | h
            · exact .inl ⟨decide_eq_false (by omega), decide_eq_false (by omega)⟩
            · right
              obtain ⟨j, rfl⟩ : ∃ j, k = j + 1 := ⟨k - 1, by omega⟩
              have hp : ts[j]? = some ts[j] := List.getElem?_eq_getElem (by omega)
              have hasc := HK.out.asc j _ _ hp ht
              have c2 := (b1 _).trans (Hc3.out _ _ (acc_at' ts j 2 _ hp (by omega)))
              have c3 := (b1 _).trans (Hc3.out _ _ (acc_at' ts j 3 _ hp (by omega)))
              refine ⟨j, _, _, ⟨by omega, by omega, by omega, by omega, c2, c3, decide_eq_false (by omega), decide_eq_false (by omega)⟩, ?_⟩
              rcases hasc with hl | ⟨hl, hc⟩
              · exact .inl ⟨by rw [beq_eq_false_iff_ne]; omega, by rw [beq_eq_false_iff_ne]; omega⟩
              · exact .inr ⟨by rw [beq_iff_eq]; omega, by rw [beq_iff_eq]; omega, decide_eq_false (by omega), decide_eq_false (by omega)⟩
          have hA1 : decide ((t.line : Int) < 1) = false := decide_eq_false (by have := A.line; omega)
          have hA2 : decide ((M : Int) < (t.line : Int)) = false := decide_eq_false (by have := A.line; omega)
          have hA2n : decide (M < t.line) = false := decide_eq_false (by have := A.line; omega)
          have hA6n : decide (x.size + 1 < t.col) = false := decide_eq_false (by have := A.col; have := A.le; omega)
          have hA8n : cl ≤ x.size := A.le
          have hA4n : ln < M := hln'
          have hA3 : (t.line : Int) - 1 = (ln : Int) := by have := A.line; omega
          have hA4 : (ln : Int) < (M : Int) := by omega
          have hA5 : decide ((t.col : Int) < 1) = false := decide_eq_false (by have := A.col; omega)
          have hA6 : decide ((x.size : Int) + 1 < (t.col : Int)) = false := decide_eq_false (by have := A.col; have := A.le; omega)
          have hA7 : (t.col : Int) - 1 = (cl : Int) := by have := A.col; omega
          have hA8 : (cl : Int) ≤ (x.size : Int) := by have := A.le; omega
          have hxs := A.size
          have Hpre := Lib.hid A.pre
          have HA := Lib.hid A
          have HTk := Lib.hid ht
          clear A ht hT b1 hln'
          obtain ⟨tk, tt, tl, tc⟩ := t
          simp only at hA1 hA2 hA2n hA3 hA5 hA6 hA6n hA7 a0 a1 a2 a3 hcases Hpre
          have hkinds : (tk = 4 ∧ (tk == 4) = true) ∨ (tk ≠ 4 ∧ (tk == 4) = false) := by
            rcases Classical.em (tk = 4) with h | h
            · exact .inl ⟨h, by rw [h]; rfl⟩
            · exact .inr ⟨h, beq_eq_false_iff_ne.2 h⟩
          have hz3' : w3.heap.size ≤ wr.heap.size + 1 := by omega
          have hxi : (x.size : Int) + 1 ≤ 1001 := by omega
          have hxw : IntKind.i64.wrap ((x.size : Int) + 1) = (x.size : Int) + 1 := by rw [IntKind.wrap_i64]; omega
          have hxc : IntKind.i64.wrap (cl : Int) = (cl : Int) := by rw [IntKind.wrap_i64]; omega
          rcases hcases with ⟨hk1, hk2⟩ | ⟨j, pl, pc, ⟨hk1, hk2, hk3, hk4, hk5, hk6, hk7, hk8⟩, ⟨hk9, hk10⟩ | ⟨hk9, hk10, hk11, hk12⟩⟩
          all_goals
            go_wp2_with fail
            go_quiet (fail)
            go_wp2_with fail
            go_quiet ((go_at_call 7; refine (has_prefix (x.extract cl x.size) (bytesOf tt) _ Hpre.out).mono ?_; rintro e w'' ⟨he, hw⟩; exact ⟨he, _, hw⟩))
            rcases hkinds with ⟨hk4', hk4b⟩ | ⟨hk4', hk4b⟩
            · have Hk4 := Lib.hid hk4'
              clear hk4'
              go_wp2_with (at_builtin; go_loud (refine wpList_append_own _ rfl (.tmp 142) (.tmp 143) 31 rfl w3.heap.size 9 i0 _ 1 16 Tryd.underlying31 hi hi0 hi1 hi2 rfl (by decide) _ _ _ rfl ((own_drewN (Hown.out.alloc _) _).alloc _) ⟨wr.heap.size + 1, 0, none⟩ 1 1 [.string ⟨#[10]⟩] rfl rfl (one_new _ _ _ _ (by simp)) (by simp [Value.oneCell']) (by unfold maxLen; omega) (by omega) (by simp; omega) ?_))
              intro v' w1 hown1 hgrow _
              have Hown1 := Lib.hid hown1
              have Hb1 := Lib.hid (below_grown (below_drewN (Hb.out.alloc hz _) _) (by simp; omega) hgrow (own_ge Hown.out (Nat.le_refl _)))
              clear hown1 hgrow
              go_wp2_with fail
              go_roundw
              case rel =>
                refine ⟨k + 1, by go_num, by omega, ?_, Hb1.out⟩
                rw [part_take ts k _ HTk.out]
                have hp : part ⟨tk, tt, tl, tc⟩ = [10] := by rw [part, if_pos Hk4.out]
                rw [hp]
                rw [hz3]
                exact Hown1.out
              case measure => simp [intOf]; omega
            · have Hk4 := Lib.hid hk4'
              clear hk4'
              go_wp2_with (at_builtin; go_loud (refine wpList_append_own _ rfl (.tmp 145) (.tmp 148) 31 rfl w3.heap.size 9 i0 _ 1 16 Tryd.underlying31 hi hi0 hi1 hi2 rfl (by decide) _ _ _ rfl ((own_drewN (Hown.out.alloc _) _).alloc _) ⟨wr.heap.size + 1, 0, none⟩ 1 1 [.string (bytesOf tt)] rfl rfl (one_new _ _ _ _ (by simp)) (by simp [Value.oneCell']) (by unfold maxLen; omega) (by omega) (by simp; omega) ?_))
              intro v' w1 hown1 hgrow _
              have Hown1 := Lib.hid hown1
              have Hb1 := Lib.hid (below_grown (below_drewN (Hb.out.alloc hz _) _) (by simp; omega) hgrow (own_ge Hown.out (Nat.le_refl _)))
              clear hown1 hgrow
              go_wp2_with fail
              go_roundw
              case rel =>
                refine ⟨k + 1, by go_num, by omega, ?_, Hb1.out⟩
                rw [part_take ts k _ HTk.out]
                have hp : part ⟨tk, tt, tl, tc⟩ = tt := by rw [part, if_neg Hk4.out]
                rw [hp]
                rw [hz3]
                exact Hown1.out
              case measure => simp [intOf]; omega
        · have hki : ¬ (k : Int) < (ts.length : Int) := by omega
          obtain rfl : k = ts.length := by omega
          have htk : ts.take ts.length = ts := List.take_length
          have hown := Hown.out
          rw [htk] at hown
          obtain ⟨g4, c4, rfl, hg4, hc4, hcs⟩ := own_strs hown (by omega)
          have Hcs := Lib.hid hcs
          have HB := Lib.hid (Hb3.out.trans (Hb.out.mono Hb3.out.size))
          have hzw := Hb3.out.size
          clear hown hcs htk Hown
          go_wp2_with fail
          refine (join_call g4 c4 ts.length (ts.map fun t => bytesOf (part t)) ⟨#[32]⟩ (joinedL ts0) wr (by simp) (known_join s ts ts0 l' c' HK.out) Hcs.out hg4 (by omega) hc4 (by have := HK.out.size; omega)).mono ?_
          rintro e w4 ⟨rfl, hb4⟩
          have HB4 := Lib.hid (HB.out.trans (hb4.mono HB.out.size))
          have Hb4 := Lib.hid hb4
          have hz4 := hb4.size
          obtain ⟨us, hu1, hu2, hu3⟩ := known_again s ts ts0 l' c' HK.out
          have Hu3 := Lib.hid hu3
          have Hu1 := Lib.hid hu1
          have Hu2 := Lib.hid hu2
          clear hb4 hu1 hu2 hu3
          go_wp2_with fail
          refine (Tokens_any (bytesOf (joinedL ts0)) _ (by have := HK.out.size; have e : (bytesOf (joinedL ts0)).size = (joinedL ts0).length := by simp [bytesOf, ByteArray.size]
                                                           omega)).mono ?_
          rintro e w5 ⟨ho, hb5⟩
          rw [Hu1.out] at ho
          obtain ⟨v2, rfl, hown2⟩ := ho
          obtain ⟨g2, c2, rfl, hg2, hc2⟩ := own_cells' hown2 Hu2.out
          have hz5 := hb5.size
          have Hk1 := Lib.hid (show ∀ j u, (accCells ts)[j]? = some u → w5.cell? ⟨g1, j, none⟩ = some u from fun j u h =>
            (hb5.cell (p := ⟨g1, j, none⟩) (by show g1 < _; omega)).trans ((Hb4.out.cell (p := ⟨g1, j, none⟩) (by show g1 < _; omega)).trans ((Hb.out.cell (p := ⟨g1, j, none⟩) hg3).trans (Hc3.out j u h))))
          have Hk2 := Lib.hid hc2
          have HB5 := Lib.hid (HB4.out.trans (hb5.mono HB4.out.size))
          clear hb5 hown2 hc2
          have hg15 : g1 < w5.heap.size := by omega
          go_wp2_with fail
          refine (equalFunc_same g1 c1 g2 c2 ts us _ (by omega) (by simp; omega) (by simp; omega) Hu3.out (fun j u h => (World.cell?_alloc_lt w5 _ _ (by show g1 < w5.heap.size; omega)).trans (Hk1.out j u h)) (fun j u h => (World.cell?_alloc_lt w5 _ _ (by show g2 < w5.heap.size; omega)).trans (Hk2.out j u h))).mono ?_
          rintro e w6 ⟨rfl, hb6⟩
          have HB6 := Lib.hid ((HB5.out.alloc HB5.out.size _).trans (hb6.mono (by simp; have := HB5.out.size; omega)))
          clear hb6
          go_wp2_with fail
          go_ret
          exact ⟨rfl, HB6.out⟩
    | bad line col =>
      have ho' : e = .returned (.tuple #[.slice none 0 0, .agg #[.int .i64 line, .int .i64 col], .int .i64 7]) := ho
      subst ho'
      clear hT ho
      go_wp2_with fail
      go_ret
      exact ⟨rfl, Hb2.out.alloc Hb2.out.size _⟩
  · have hsi : (1000 : Int) < (s.size : Int) := by omega
    go_enter Tryd.func3, Tryd.ntmps3
    go_wp2_with fail
    refine (awake_any _).mono ?_
    rintro e w1 ⟨rfl, hb1⟩
    have Hb1 := Lib.hid hb1
    clear hb1
    go_wp2_with fail
    go_ret
    exact ⟨rfl, Hb1.out⟩

end Go.Proofs.YtbpcfgeefelfdaaDoor
