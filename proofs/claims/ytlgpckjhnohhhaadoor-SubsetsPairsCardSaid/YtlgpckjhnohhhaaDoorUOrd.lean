/- Layer 7: the law SubsetsOrder, walked. -/
import Derived.Test.YtlgpckjhnohhhaaDoorUAwa
import Derived.Test.YtlgpckjhnohhhaaDoorUOrdM
import Derived.Test.YtlgpckjhnohhhaaDoorURef
namespace Go.Proofs.YtlgpckjhnohhhaaDoor
open Go.ChangeShapes Go.WideShapes Go.ChangeAt Go.RowKit Go.Joins Go.Deep Go.Shelf
set_option linter.unusedVariables false

/-- An own row of numbers, empty or not. -/
def OR (W : World) (base : Nat) (pa : Option Addr) (n pc : Nat) (f : Nat → Int) : Prop := 0 < n → ∃ g, pa = some ⟨g, 0, none⟩ ∧ NRow base n W g pc f
theorem OR.on {W W2 : World} {base n pc : Nat} {pa : Option Addr} {f : Nat → Int} (h : OR W base pa n pc f) (hb : Below W.heap.size W W2) : OR W2 base pa n pc f := fun hn => by
  obtain ⟨g, h1, h2⟩ := h hn
  exact ⟨g, h1, h2.on hb⟩
theorem OR.irow {W : World} {base n pc : Nat} {pa : Option Addr} {f : Nat → Int} (h : OR W base pa n pc f) : IRow W pa n f := fun hn => by
  obtain ⟨g, rfl, h2⟩ := h hn
  exact h2.irow hn
theorem OR.cong {W : World} {base n pc : Nat} {pa : Option Addr} {f f2 : Nat → Int} (h : OR W base pa n pc f) (e : ∀ l, l < n → f2 l = f l) : OR W base pa n pc f2 := fun hn => by
  obtain ⟨g, h1, h2⟩ := h hn
  exact ⟨g, h1, h2.cong e⟩
def rowI (n : Nat) (f : Nat → Int) : List Value := (List.range n).map fun j => Value.int .i64 (f j)
theorem own_or {W : World} {base n pc : Nat} {pa : Option Addr} {f : Nat → Int} (h : W.ownsRow base 3 1 (.slice pa n pc) n (rowI n f)) : OR W base pa n pc f := fun hn => by
  obtain ⟨g, cp, hv, h2⟩ := own_nrow h hn
  injection hv with e1 e2 e3
  subst e1; subst e3
  exact ⟨g, rfl, h2⟩
theorem clone_any (ra : Option Addr) (n c : Nat) (f : Nat → Int) (w : World) (hr : IRow w ra n f) (hn : n ≤ 4096) :
    Calls Tryd.prog 31 #[.slice ra n c] w fun e w' => ∃ pa pc, e = .returned (.slice pa n pc) ∧ w'.ownsRow w.heap.size 3 1 (.slice pa n pc) n (rowI n f) ∧ Below w.heap.size w w' := by
  cases ra with
  | none =>
    have h0 : n = 0 := by
      rcases Nat.eq_zero_or_pos n with h | h
      · exact h
      · obtain ⟨g, o, e, _⟩ := hr h
        cases e
    subst h0
    refine (Tryd.slices_Clone_int_nil 0 c w).mono ?_
    rintro e w' ⟨rfl, rfl⟩
    exact ⟨none, 0, rfl, ⟨rfl, .inl ⟨rfl, rfl⟩⟩, Below.refl _ _⟩
  | some a =>
    rcases Nat.eq_zero_or_pos n with h | h
    · subst h
      refine (Tryd.slices_Clone_int_zero a c w).mono ?_
      rintro e w' ⟨v, rfl, ho, _, hb⟩
      obtain ⟨pa, pc, rfl⟩ := own_form ho
      exact ⟨pa, pc, rfl, ho, hb⟩
    · obtain ⟨g, o, e, h1, h2⟩ := hr h
      injection e with e
      subst e
      refine (Tryd.slices_Clone_int g o n c ((List.range n).map f) w (by simp) (by omega) (fun j hj => ?_)).mono ?_
      · have hj' : j < n := by simpa using hj
        rw [h2 j hj', List.getD_eq_getElem?_getD, List.getElem?_eq_getElem hj]
        simp
      · rintro e w' ⟨v, rfl, ho, _, hb⟩
        obtain ⟨pa, pc, rfl⟩ := own_form ho
        rw [List.take_of_length_le (by simp)] at ho
        refine ⟨pa, pc, rfl, ?_, hb⟩
        unfold rowI
        rw [List.map_map] at ho
        exact ho
theorem reverse_any (base : Nat) (pa : Option Addr) (n pc : Nat) (f : Nat → Int) (w : World) (h : OR w base pa n pc f) (hn : n ≤ 4096) :
    Calls Tryd.prog 37 #[.slice pa n pc] w fun e w' => e = .returned (.tuple #[]) ∧ Only (fun q => ∃ g, pa = some ⟨g, 0, none⟩ ∧ 0 < n ∧ q = g) w w' ∧ OR w' base pa n pc (fun j => f (n - 1 - j)) := by
  rcases Nat.eq_zero_or_pos n with h0 | h0
  · subst h0
    refine (Tryd.slices_Reverse_int_empty pa pc w).mono ?_
    rintro e w' ⟨rfl, rfl⟩
    exact ⟨rfl, Only.refl _ _, fun hn => by omega⟩
  · obtain ⟨g, rfl, hN⟩ := h h0
    refine (Tryd.slices_Reverse_int_cells g 0 n pc ((List.range n).map f) w (by simp) (by omega) (fun j hj => ?_) (fun j hj => by rw [Nat.zero_add]; exact hN.fz j hj)).mono ?_
    · have hj' : j < n := by simpa using hj
      rw [Nat.zero_add, hN.cell j hj', List.getD_eq_getElem?_getD, List.getElem?_eq_getElem hj]
      simp
    · rintro e w' ⟨rfl, q, rfl⟩
      rw [List.take_of_length_le (by simp)]
      have ho := (Only.of_below (S := fun q => q = g) (below_drew (Below.refl w.heap.size w) q)).trans (setCells_only g (((List.range n).map f).reverse.map (Value.int .i64)) 0 (w.drewN q))
      refine ⟨rfl, ho.mono fun c hc => ⟨g, rfl, h0, hc⟩, fun _ => ⟨g, rfl, hN.lo, Nat.lt_of_lt_of_le hN.hb ho.size, hN.cap, fun j hj => ?_, fun j hj => ?_⟩⟩
      · have := World.cell?_setCells_in g (((List.range n).map f).reverse.map (Value.int .i64)) 0 (w.drewN q) (fun j hj => by
          have hj' : j < n := by simpa using hj
          have := hN.cell j hj'
          rw [Nat.zero_add]
          show (w.cell? ⟨g, j, none⟩).isSome = true
          rw [this]; rfl) j (by simpa using hj)
        rw [Nat.zero_add] at this
        rw [this]
        simp
      · rw [World.frozen?_setCells]
        exact hN.fz j hj

theorem two_news (W : World) (m : Int) : ∀ l u, [Value.int .i64 m, Value.int .i64 (-m)][l]? = some u → (W.alloc (Obj.cells #[.int .i64 m, .int .i64 (-m)] 3)).cell? ((⟨W.heap.size, 0, none⟩ : Addr).add l) = some u := fun l u h => by
  match l, h with
  | 0, h => simp at h; subst h; simp [go_sem]
  | 1, h => simp at h; subst h; simp [go_sem]
  | l + 2, h => simp at h
def negF (i : Nat) (f : Nat → Int) : Nat → Int := fun j => if j < i then -f j else f j
def moreF (n : Nat) (f : Nat → Int) (m : Int) : Nat → Int := fun j => if j < n then f j else if j = n then m else -m
theorem moreF_list (n : Nat) (f : Nat → Int) (m : Int) : rowI n f ++ [.int .i64 m, .int .i64 (-m)] = rowI (n + 2) (moreF n f m) := by
  unfold rowI
  rw [List.range_succ, List.range_succ, List.map_append, List.map_append, List.append_assoc]
  congr 1
  · refine List.map_congr_left fun j hj => ?_
    have := List.mem_range.1 hj
    unfold moreF
    rw [if_pos this]
  · unfold moreF
    simp
    intro h; omega
theorem okF_of {n : Nat} {f g : Nat → Int} (h : okF n f = true) {m : Nat} (hm : ∀ i, i < m → (∃ j, j < n ∧ (g i = f j ∨ g i = -f j)) ∨ (-4294967296 ≤ g i ∧ g i ≤ 4294967296)) : okF m g = true := by
  unfold okF at *
  have h := of_decide_eq_true h
  refine decide_eq_true fun i hi => ?_
  rcases hm i hi with ⟨j, hj, e | e⟩ | e
  · rw [e]; exact h j hj
  · have := h j hj; rw [e]; omega
  · omega

theorem whole_sum (n : Nat) (f : Nat → Int) : smS (bitI n (2 ^ n - 1)) f n = smS (fun _ => true) f n := smS_congr fun i hi => by
  unfold bitI
  rw [whole_bit]
  exact decide_eq_true (by omega)
theorem tot_more (n : Nat) (f : Nat → Int) (m : Int) : smS (fun _ => true) (moreF n f m) (n + 2) = smS (fun _ => true) f n := by
  show smS (fun _ => true) (moreF n f m) n + (if true = true then moreF n f m n else 0) + (if true = true then moreF n f m (n + 1) else 0) = _
  rw [if_pos rfl, if_pos rfl, smS_fcongr (p := fun _ => true) (f := moreF n f m) (g := f) (n := n) fun i hi => by unfold moreF; rw [if_pos hi]]
  have e1 : moreF n f m n = m := by unfold moreF; rw [if_neg (by omega), if_pos rfl]
  have e2 : moreF n f m (n + 1) = -m := by unfold moreF; rw [if_neg (by omega), if_neg (by omega)]
  rw [e1, e2]; omega
/-- How many parts a list has. -/
def KP (n : Nat) (f : Nat → Int) : Nat := mst n (fun s => smS (bitI n s) f n) (2 ^ n - 1)
theorem Parts_no (ra : Option Addr) (n c : Nat) (f : Nat → Int) (w : World) (hr : IRow w ra n f) (hd : DB w) (hn : n ≤ 11) (ho : okF n f = true) (hz : smS (fun _ => true) f n ≠ 0) :
    Calls Tryd.prog 24 #[.slice ra n c] w fun e w' => Below w.heap.size w w' ∧ e = .returned (.tuple #[.slice none 0 0, .int .i64 18]) :=
  (Parts_ok ra n c f w hr hd hn ho).mono fun e w' ⟨hb, h⟩ => by
    rcases h with ⟨_, h⟩ | ⟨h, _⟩
    · exact ⟨hb, h⟩
    · rw [whole_sum] at h; exact absurd h hz
theorem Parts_yes (ra : Option Addr) (n c : Nat) (f : Nat → Int) (w : World) (hr : IRow w ra n f) (hd : DB w) (hn : n ≤ 11) (ho : okF n f = true) (hz : smS (fun _ => true) f n = 0) :
    Calls Tryd.prog 24 #[.slice ra n c] w fun e w' => Below w.heap.size w w' ∧ ∃ ps pa pc, e = .returned (.tuple #[.slice pa (KP n f) pc, .int .i64 0]) ∧ ps.length = KP n f ∧ PtR (fun s => smS (bitI n s) f n) (fun s => (mst n (fun s => smS (bitI n s) f n) s : Int)) (2 ^ n - 1) ps ∧ LL w' pa (idxs n ps) :=
  (Parts_ok ra n c f w hr hd hn ho).mono fun e w' ⟨hb, h⟩ => by
    rcases h with ⟨h, _⟩ | ⟨_, ps, v, rows, h1, h2, h3⟩
    · rw [whole_sum] at h; exact absurd hz h
    · obtain ⟨pa, pc, rfl⟩ := own_form h3.top
      have hl : ps.length = KP n f := h2.len
      have hl2 : (idxs n ps).length = KP n f := by unfold idxs; rw [List.length_map, hl]
      have h4 := h3.ll
      rw [hl2] at h1
      exact ⟨hb, ps, pa, pc, h1, hl, h2, h4⟩
theorem idxs_short (n : Nat) (ps : List Nat) (hn : n ≤ 16) : ∀ l ∈ idxs n ps, l.length ≤ 1000 := fun l hl => by
  unfold idxs at hl
  obtain ⟨p, _, rfl⟩ := List.mem_map.1 hl
  have := sz_le n p
  unfold sz at this
  omega
theorem KP_le (n : Nat) (f : Nat → Int) (hn : n ≤ 11) : KP n f ≤ 2048 := by
  have h2 : 2 ^ n ≤ 2048 := Nat.le_trans (Nat.pow_le_pow_right (by decide) hn) (by decide)
  have := mst_le (n := n) (sm := fun s => smS (bitI n s) f n) (by omega) (2 ^ n - 1) (by omega)
  unfold KP
  omega

structure UorR (ga gc N M j d : Nat) (x : Int) (Wc : World) (L : Nat → Bool) (v : Nat → Value) (W : World) : Prop where
  st : Below Wc.heap.size Wc W
  w2 : Had L 2 (∀ j ∈ [0, 1], L j = true)
  w3 : Had L 3 (∀ j ∈ [2], L j = true)
  w6 : Had L 6 (∀ j ∈ [5], L j = true)
  w7 : Had L 7 (∀ j ∈ [6], L j = true)
  w9 : Had L 9 (∀ j ∈ [7, 8], L j = true)
  w10 : Had L 10 (∀ j ∈ [4, 9], L j = true)
  w11 : Had L 11 (∀ j ∈ [10], L j = true)
  w12 : Had L 12 (∀ j ∈ [11], L j = true)
  w13 : Had L 13 (∀ j ∈ [3, 12], L j = true)
  f0 : Had L 0 (v 96 = .slice (some ⟨ga, 0, none⟩) (N) (M))
  f1 : Had L 1 (v 97 = .int .i64 (j : Int))
  f2 : Had L 2 (v 98 = .pointer (some ⟨ga, j, none⟩))
  f3 : Had L 3 (v 99 = .int .i64 x)
  f4 : Had L 4 (v 100 = .slice (some ⟨gc, 0, none⟩) (N) (M))
  f5 : Had L 5 (v 101 = .slice (some ⟨gc, 0, none⟩) (N) (M))
  f6 : Had L 6 (v 102 = .int .i64 (N : Int))
  f7 : Had L 7 (v 103 = .int .i64 ((N - 1 : Nat) : Int))
  f8 : Had L 8 (v 104 = .int .i64 (j : Int))
  f9 : Had L 9 (v 105 = .int .i64 (d : Int))
  f10 : Had L 10 (v 106 = .pointer (some ⟨gc, d, none⟩))
  f11 : Had L 11 (v 107 = .int .i64 (-x))
  f12 : Had L 12 (v 108 = .int .i64 x)
  f13 : Had L 13 (v 109 = .bool false)
set_option maxRecDepth 100000 in
set_option maxHeartbeats 64000000 in
theorem lawOrder_any (ra : Option Addr) (n c : Nat) (f : Nat → Int) (m : Int) (w : World) (hr : IRow w ra n f) (hd : DB w) (hn : n ≤ 9223372036854775807) (m0 : 0 ≤ m) (m1 : m ≤ 4294967295) :
    Calls Tryd.prog 8 #[.slice ra n c, .int .u32 m] w fun e w' => e = .returned (.bool true) ∧ Below w.heap.size w w' := by
  have HR := Lib.hid hr
  have HD := Lib.hid hd
  have CA := Lib.hid (awake_any w hd)
  have CG := fun W (h : Below w.heap.size w W) => Lib.hid (Given_any ra n c f W (HR.out.on h) hn)
  clear hr hd
  by_cases h8 : 8 < n
  · have l8 : (n : Int) > 8 := by omega
    go_enter Tryd.func8, Tryd.ntmps8
    go_wp2_with (first
      | (go_at_call 9; (with_reducible refine ((CA.out).mono ?_)); rintro e w2 ⟨rfl, hb2⟩))
    go_ret
    exact ⟨rfl, hb2⟩
  have l8 : ¬ (n : Int) > 8 := by omega
  by_cases hg : givE n f = 0
  · have hok : okF n f = true := by
      unfold givE at hg
      split at hg
      · cases hg
      · split at hg
        · assumption
        · cases hg
    rw [hg] at CG
    clear hg
    have CC := fun W (h : Below w.heap.size w W) => Lib.hid (clone_any ra n c f W (HR.out.on h) (by omega))
    have HOK := Lib.hid hok
    clear hok
    go_enter Tryd.func8, Tryd.ntmps8
    go_upto_region 7 with (first
      | (go_at_call 9; (with_reducible refine ((CA.out).mono ?_)); rintro e w2 ⟨rfl, hb2⟩)
      | (go_at_call 13; (with_reducible refine (((CG _ hb2).out).mono ?_)); rintro e w3 ⟨rfl, rfl⟩; have HB := Lib.hid hb2; clear hb2; have K := (CC _ HB.out).out)
      | (go_at_call 31; (with_reducible refine (K.mono ?_)); clear K; rintro e w4 ⟨ba, bc, rfl, hown4, hb4⟩; have HB4 := Lib.hid (below_on HB.out hb4); have K2 := (CC _ HB4.out).out)
      | (go_at_call 31; (with_reducible refine (K2.mono ?_)); clear K2; rintro e w5 ⟨ma, mc, rfl, hown5, hb5⟩; have KR := reverse_any _ ba n bc f w5 ((own_or hown4).on hb5) (by omega))
      | (go_at_call 37; (with_reducible refine (KR.mono ?_)); clear KR; rintro e w6 ⟨rfl, ho6, hor6⟩))
    have HBK : Hid (OR w6 w2.heap.size ba n bc (fun j => f (n - 1 - j))) := hor6
    have HMN : Hid (OR w6 w4.heap.size ma n mc (negF 0 f)) := fun hn0 => by
      obtain ⟨g, rfl, h2⟩ := own_or hown5 hn0
      obtain ⟨gb, hgb, hNb⟩ := own_or hown4 hn0
      refine ⟨g, rfl, (h2.only ho6 ?_).cong fun l _ => if_neg (by omega)⟩
      rintro ⟨g', e, _, e2⟩
      rw [hgb] at e
      injection e with e
      injection e with e
      have := hNb.hb
      have := h2.lo
      omega
    have HSEP : Hid (0 < n → ∃ gb, ba = some ⟨gb, 0, none⟩ ∧ gb < w4.heap.size) := fun hn0 => by
      obtain ⟨gb, hgb, hNb⟩ := own_or hown4 hn0
      exact ⟨gb, hgb, hNb.hb⟩
    have HB6 : Hid (Below w.heap.size w w6) := (below_on HB4.out hb5).trans (ho6.below (below_on HB4.out hb5).size (fun q ⟨g, e, hn0, e2⟩ => by
      obtain ⟨gb, hgb, hNb⟩ := own_or hown4 hn0
      rw [hgb] at e
      injection e with e
      injection e with e
      have := hNb.lo
      have := HB.out.size
      omega))
    have HSZ : Hid (w.heap.size ≤ w4.heap.size) := HB4.out.size
    have S0 : Hid (OR w6 w2.heap.size ba n bc (fun j => f (n - 1 - j)) ∧ OR w6 w4.heap.size ma n mc (negF 0 f) ∧ Below w.heap.size w w6) := ⟨HBK.out, HMN.out, HB6.out⟩
    clear hown4 hown5 hb4 hb5 ho6 hor6 HBK HMN HB6 HB HB4 CA CG
    go_wp2_with fail
    go_loopg [41] n (fun g' s41 wx => ∃ i : Nat, s41 = .int .i64 i ∧ g' = n - i ∧ i ≤ n ∧ Hid (OR wx w2.heap.size ba n bc (fun j => f (n - 1 - j)) ∧ OR wx w4.heap.size ma n mc (negF i f) ∧ Below w.heap.size w wx))
    case atStart => exact ⟨0, rfl, rfl, Nat.zero_le _, S0⟩
    case round =>
      clear S0
      obtain ⟨i, rfl, rfl, hi, S⟩ := hrel
      rename World => W1
      by_cases hlt : i < n
      · have wk : IntKind.i64.wrap ((i : Int) + 1) = ((i + 1 : Nat) : Int) := by rw [IntWalk.i64_in _ (by omega)]; omega
        have li : (i : Int) < (n : Int) := by omega
        obtain ⟨mg, rfl, hN⟩ := S.out.2.1 (by omega)
        have p1 := hN.cell i hlt
        have p2 := hN.fz i hlt
        obtain ⟨x, hx⟩ : ∃ x, f i = x := ⟨_, rfl⟩
        rw [show negF i f i = x by unfold negF; rw [if_neg (by omega), hx]] at p1
        have hxb := (of_decide_eq_true HOK.out) i hlt
        rw [hx] at hxb
        have wn : IntKind.i64.wrap (-x) = -x := IntWalk.i64_in _ (by omega)
        have T : Hid (OR (W1.setCell ⟨mg, i, none⟩ (.int .i64 (-x))) w2.heap.size ba n bc (fun j => f (n - 1 - j)) ∧ OR (W1.setCell ⟨mg, i, none⟩ (.int .i64 (-x))) w4.heap.size (some ⟨mg, 0, none⟩) n mc (negF (i + 1) f) ∧ Below w.heap.size w (W1.setCell ⟨mg, i, none⟩ (.int .i64 (-x)))) := by
          refine ⟨fun hn0 => ?_, fun hn0 => ⟨mg, rfl, hN.set (f2 := negF (i + 1) f) i _ hlt (by unfold negF; rw [if_pos (by omega), hx]) (fun l _ hne => by
            unfold negF
            by_cases q : l < i
            · rw [if_pos q, if_pos (by omega)]
            · rw [if_neg q, if_neg (by omega)])⟩, S.out.2.2.setCell (Nat.le_trans HSZ.out hN.lo) _⟩
          obtain ⟨gb, hgb, hNb⟩ := S.out.1 hn0
          obtain ⟨gb2, hgb2, hlt2⟩ := HSEP.out hn0
          rw [hgb] at hgb2
          injection hgb2 with e
          injection e with e
          have := hN.lo
          exact ⟨gb, hgb, hNb.only (only_set W1 ⟨mg, i, none⟩ _) (fun q => by have q : gb = mg := q; omega)⟩
        clear S hN hx hxb
        go_wp2_with fail
        go_roundg (n - (i + 1))
        case measure => omega
        case rel => exact ⟨i + 1, rfl, rfl, by omega, T⟩
      · have e : i = n := by omega
        subst e
        have HBK : Hid (IRow W1 ba i (fun j => f (i - 1 - j))) := S.out.1.irow
        have HMN : Hid (IRow W1 ma i (fun j => -f j)) := (S.out.2.1.cong (f2 := fun j => -f j) fun l hl => by unfold negF; rw [if_pos hl]).irow
        have HW := Lib.hid S.out.2.2
        clear S HSEP HSZ
        have hok2 : okF i (fun j => f (i - 1 - j)) = true := okF_of HOK.out (fun l hl => .inl ⟨i - 1 - l, by omega, .inl rfl⟩)
        have hok3 : okF i (fun j => -f j) = true := okF_of HOK.out (fun l hl => .inl ⟨l, hl, .inr rfl⟩)
        have S1 := fun W (h : Below w.heap.size w W) => Lib.hid (Sums_ok ra i c f W (HR.out.on h) (HD.out.on h) (by omega) HOK.out)
        have S2 := fun W (h : Below W1.heap.size W1 W) => Lib.hid (Sums_ok ba i bc _ W (HBK.out.on h) (HD.out.on (below_on HW.out h)) (by omega) hok2)
        have S3 := fun W (h : Below W1.heap.size W1 W) => Lib.hid (Sums_ok ma i mc _ W (HMN.out.on h) (HD.out.on (below_on HW.out h)) (by omega) hok3)
        rw [allS_rev f (fun j => f (i - 1 - j)) i (fun _ _ => rfl)] at S2
        rw [allS_neg f (fun j => -f j) i (fun _ _ => rfl)] at S3
        have HK2 := Lib.hid hok2
        have HK3 := Lib.hid hok3
        have hM : 2 ^ i ≤ 256 := Nat.le_trans (Nat.pow_le_pow_right (by decide) (show i ≤ 8 by omega)) (by decide)
        clear hok2 hok3
        have hAB : ∀ l, l < (allS f i).length → -1125899906842624 * 8 ≤ nth (allS f i) l ∧ nth (allS f i) l ≤ 1125899906842624 * 8 := fun l hl => by
          unfold nth
          rw [List.getD_eq_getElem?_getD, List.getElem?_eq_getElem hl]
          obtain ⟨p, hp⟩ := (allS_mem f i _).1 (List.getElem_mem hl)
          have := smS_bd (p := p) (f := f) (B := 1125899906842624) (n := i) (by decide) (of_decide_eq_true HOK.out)
          rw [hp] at this
          have h8 : (i : Int) * 1125899906842624 ≤ 8 * 1125899906842624 := Int.mul_le_mul_of_nonneg_right (by omega) (by decide)
          show _ ≤ (allS f i)[l] ∧ (allS f i)[l] ≤ _
          omega
        have HAB := Lib.hid hAB
        clear hAB
        have hlen : (List.map (fun x => -x) (allS f i)).reverse.length = (allS f i).length := by simp
        rw [hlen] at S3
        clear hlen
        generalize allS f i = al at *
        go_upto_region 15 with (first
          | (go_at_call 11; (with_reducible refine (((S1 _ HW.out).out).mono ?_)); rintro e w7 ⟨hb7, ga, rfl, hra⟩; have HBA := Lib.hid hb7)
          | (go_at_call 11; (with_reducible refine (((S2 _ HBA.out).out).mono ?_)); rintro e w8 ⟨hb8, gb, rfl, hrb⟩; have HBB := Lib.hid (below_on HBA.out hb8))
          | (go_at_call 11; (with_reducible refine (((S3 _ HBB.out).out).mono ?_)); rintro e w9 ⟨hb9, gc, rfl, hrc⟩; have HBC := Lib.hid (below_on HBB.out hb9)))
        have HRA := Lib.hid ((hra.on hb8).on hb9)
        have HRB := Lib.hid (hrb.on hb9)
        have HRC := Lib.hid hrc
        clear hra hrb hrc hb7 hb8 hb9 S1 S2 S3 HBA HBB
        have E1 := Lib.hid (eq_true al.length al.length (some ⟨ga, 0, none⟩) (2 ^ i) al (some ⟨gb, 0, none⟩) (2 ^ i) al w9 HRA.out.irow HRB.out.irow rfl rfl (by have := HRA.out.cap; omega) (by have := HRA.out.cap; omega) rfl)
        have hN := HRA.out.cap
        generalize hNd : al.length = N at HRA HRB HRC E1 HAB hN ⊢
        have HN := Lib.hid hNd.symm
        clear hNd
        go_upto_region 17 with (first
          | (go_at_call 14; (with_reducible refine ((E1.out).mono ?_)); rintro e w10 ⟨rfl, hb10⟩))
        have HRA2 := Lib.hid (HRA.out.on hb10)
        have HRC2 := Lib.hid (HRC.out.on hb10)
        have S0 : Hid (Below w10.heap.size w10 w10) := Below.refl _ _
        have HBD := Lib.hid (below_on HBC.out hb10)
        clear HRA HRB HRC E1 hb10 HBC
        go_wp2_with fail
        go_loopg [93] N (fun g' s93 wx => ∃ j : Nat, s93 = .int .i64 j ∧ g' = N - j ∧ j ≤ N ∧ Hid (Below w10.heap.size w10 wx))
        case atStart => exact ⟨0, rfl, rfl, Nat.zero_le _, S0⟩
        case round =>
          clear S0
          obtain ⟨j, rfl, rfl, hj, S⟩ := hrel
          rename World => W2
          by_cases hjl : j < N
          · have wk : IntKind.i64.wrap ((j : Int) + 1) = ((j + 1 : Nat) : Int) := by rw [IntWalk.i64_in _ (by omega)]; omega
            have lj : (j : Int) < (N : Int) := by omega
            obtain ⟨d, hdd⟩ : ∃ d, d = N - 1 - j := ⟨_, rfl⟩
            have w1' : IntKind.i64.wrap ((N : Int) - 1) = ((N - 1 : Nat) : Int) := by rw [IntWalk.i64_in _ (by omega)]; omega
            have w2' : IntKind.i64.wrap (((N - 1 : Nat) : Int) - j) = (d : Int) := by rw [IntWalk.i64_in _ (by omega)]; omega
            have ld : (d : Int) < (N : Int) := by omega
            have hxb := HAB.out j hjl
            have hyx : nth (List.map (fun x => -x) al).reverse d = -nth al j := by
              unfold nth
              have hN' := HN.out
              rw [List.getD_eq_getElem?_getD, List.getD_eq_getElem?_getD, List.getElem?_reverse (by simp; omega), List.getElem?_map, List.length_map, show al.length - 1 - d = j by omega, List.getElem?_eq_getElem (by omega)]
              rfl
            have c1 := (HRA2.out.on S.out).cell j hjl
            have c2 := (HRC2.out.on S.out).cell d (by omega)
            rw [hyx] at c2
            obtain ⟨x, hx⟩ : ∃ x, nth al j = x := ⟨_, rfl⟩
            rw [hx] at c1 c2 hxb
            have LX : Hid (W2.cell? ⟨ga, j, none⟩ = some (.int .i64 x) ∧ ga < W2.heap.size) := ⟨c1, (HRA2.out.on S.out).hb⟩
            have LY : Hid (W2.cell? ⟨gc, d, none⟩ = some (.int .i64 (-x)) ∧ gc < W2.heap.size) := ⟨c2, (HRC2.out.on S.out).hb⟩
            have wn : IntKind.i64.wrap (-(-x)) = x := by rw [Int.neg_neg, IntWalk.i64_in _ (by omega)]
            have wn2 : IntKind.i64.wrap x = x := by rw [IntWalk.i64_in _ (by omega)]
            clear hyx c1 c2 hx hxb hdd
            go_upto_region 20 with fail
            refine wp_region_each (fun L A W => ∃ (v : Nat → Value), A = ⟨#[_, _, _, _, _, _, _, _, _, _, _, _, _, _, _, _, _, _, _, _, _, _, _, _, _, _, _, _, _, _, _, _, _, _, _, _, _, _, _, _, _, _, _, _, _, _, _, _, _, _, _, _, _, _, _, _, _, _, _, _, _, _, _, _, _, _, _, _, _, _, _, _, _, _, _, _, _, _, _, _, _, _, _, _, _, _, _, _, _, _, _, _, _, _, _, _, v 96, v 97, v 98, v 99, v 100, v 101, v 102, v 103, v 104, v 105, v 106, v 107, v 108, v 109, _, _, _, _, _, _, _, _, _, _, _, _, _, _, _, _, _, _, _, _, _, _, _, _, _, _, _, _, _, _, _, _, _, _, _, _, _, _, _, _, _, _, _, _, _, _, _, _, _, _, _, _, _, _, _, _, _, _, _, _, _, _, _, _, _, _, _, _, _], []⟩ ∧ UorR ga gc N (2 ^ i) j d x W2 L v W) (by kernel_rfl) (by kernel_rfl) ⟨fun jz => if jz = 96 then u96 else if jz = 97 then u97 else if jz = 98 then u98 else if jz = 99 then u99 else if jz = 100 then u100 else if jz = 101 then u101 else if jz = 102 then u102 else if jz = 103 then u103 else if jz = 104 then u104 else if jz = 105 then u105 else if jz = 106 then u106 else if jz = 107 then u107 else if jz = 108 then u108 else if jz = 109 then u109 else undef, rfl, ⟨Below.drew (Below.refl _ _), Had.none, Had.none, Had.none, Had.none, Had.none, Had.none, Had.none, Had.none, Had.none, Had.none, Had.none, Had.none, Had.none, Had.none, Had.none, Had.none, Had.none, Had.none, Had.none, Had.none, Had.none, Had.none, Had.none⟩⟩ (rs := [0, 1, 2, 3, 4, 5, 6, 7, 8, 9, 10, 11, 12, 13]) (by kernel_rfl) ?_ ?_
            · refine EachOf.cons [] rfl (by kernel_rfl) ?_ ?_
              · rintro L A W ⟨v, rfl, hR⟩ hi hw K hK
                go_simp
                refine hK.out _ _ ?_
                exact ⟨(fun jz => if jz = 96 then .slice (some ⟨ga, 0, none⟩) N (2 ^ i) else v jz), rfl, ⟨hR.st, hR.w2.o, hR.w3.o, hR.w6.o, hR.w7.o, hR.w9.o, hR.w10.o, hR.w11.o, hR.w12.o, hR.w13.o, (fun _ => rfl), hR.f1.k, hR.f2.k, hR.f3.k, hR.f4.k, hR.f5.k, hR.f6.k, hR.f7.k, hR.f8.k, hR.f9.k, hR.f10.k, hR.f11.k, hR.f12.k, hR.f13.k⟩⟩
              refine EachOf.cons [] rfl (by kernel_rfl) ?_ ?_
              · rintro L A W ⟨v, rfl, hR⟩ hi hw K hK
                go_simp
                refine hK.out _ _ ?_
                exact ⟨(fun jz => if jz = 97 then .int .i64 (j : Int) else v jz), rfl, ⟨hR.st, hR.w2.o, hR.w3.o, hR.w6.o, hR.w7.o, hR.w9.o, hR.w10.o, hR.w11.o, hR.w12.o, hR.w13.o, hR.f0.k, (fun _ => rfl), hR.f2.k, hR.f3.k, hR.f4.k, hR.f5.k, hR.f6.k, hR.f7.k, hR.f8.k, hR.f9.k, hR.f10.k, hR.f11.k, hR.f12.k, hR.f13.k⟩⟩
              refine EachOf.cons [0, 1] rfl (by kernel_rfl) ?_ ?_
              · rintro L A W ⟨v, rfl, hR⟩ hi hw K hK
                have e0 := hR.f0 (hw 0 (by simp))
                have e1 := hR.f1 (hw 1 (by simp))
                simp only [e0, e1]
                clear e0 e1
                go_simp
                refine hK.out _ _ ?_
                exact ⟨(fun jz => if jz = 96 then .slice (some ⟨ga, 0, none⟩) N (2 ^ i) else if jz = 97 then .int .i64 (j : Int) else if jz = 98 then .pointer (some ⟨ga, j, none⟩) else v jz), rfl, ⟨hR.st, (fun _ j hj => upd_on (hw j hj)), hR.w3.o, hR.w6.o, hR.w7.o, hR.w9.o, hR.w10.o, hR.w11.o, hR.w12.o, hR.w13.o, (fun _ => rfl), (fun _ => rfl), (fun _ => rfl), hR.f3.k, hR.f4.k, hR.f5.k, hR.f6.k, hR.f7.k, hR.f8.k, hR.f9.k, hR.f10.k, hR.f11.k, hR.f12.k, hR.f13.k⟩⟩
              refine EachOf.cons [2] rfl (by kernel_rfl) ?_ ?_
              · rintro L A W ⟨v, rfl, hR⟩ hi hw K hK
                have e2 := hR.f2 (hw 2 (by simp))
                simp only [e2]
                clear e2
                have q0 := (hR.st.cell (p := ⟨ga, j, none⟩) LX.out.2).trans LX.out.1
                go_simp
                refine hK.out _ _ ?_
                exact ⟨(fun jz => if jz = 98 then .pointer (some ⟨ga, j, none⟩) else if jz = 99 then .int .i64 x else v jz), rfl, ⟨hR.st, hR.w2.o, (fun _ j hj => upd_on (hw j hj)), hR.w6.o, hR.w7.o, hR.w9.o, hR.w10.o, hR.w11.o, hR.w12.o, hR.w13.o, hR.f0.k, hR.f1.k, (fun _ => rfl), (fun _ => rfl), hR.f4.k, hR.f5.k, hR.f6.k, hR.f7.k, hR.f8.k, hR.f9.k, hR.f10.k, hR.f11.k, hR.f12.k, hR.f13.k⟩⟩
              refine EachOf.cons [] rfl (by kernel_rfl) ?_ ?_
              · rintro L A W ⟨v, rfl, hR⟩ hi hw K hK
                go_simp
                refine hK.out _ _ ?_
                exact ⟨(fun jz => if jz = 100 then .slice (some ⟨gc, 0, none⟩) N (2 ^ i) else v jz), rfl, ⟨hR.st, hR.w2.o, hR.w3.o, hR.w6.o, hR.w7.o, hR.w9.o, hR.w10.o, hR.w11.o, hR.w12.o, hR.w13.o, hR.f0.k, hR.f1.k, hR.f2.k, hR.f3.k, (fun _ => rfl), hR.f5.k, hR.f6.k, hR.f7.k, hR.f8.k, hR.f9.k, hR.f10.k, hR.f11.k, hR.f12.k, hR.f13.k⟩⟩
              refine EachOf.cons [] rfl (by kernel_rfl) ?_ ?_
              · rintro L A W ⟨v, rfl, hR⟩ hi hw K hK
                go_simp
                refine hK.out _ _ ?_
                exact ⟨(fun jz => if jz = 101 then .slice (some ⟨gc, 0, none⟩) N (2 ^ i) else v jz), rfl, ⟨hR.st, hR.w2.o, hR.w3.o, hR.w6.o, hR.w7.o, hR.w9.o, hR.w10.o, hR.w11.o, hR.w12.o, hR.w13.o, hR.f0.k, hR.f1.k, hR.f2.k, hR.f3.k, hR.f4.k, (fun _ => rfl), hR.f6.k, hR.f7.k, hR.f8.k, hR.f9.k, hR.f10.k, hR.f11.k, hR.f12.k, hR.f13.k⟩⟩
              refine EachOf.cons [5] rfl (by kernel_rfl) ?_ ?_
              · rintro L A W ⟨v, rfl, hR⟩ hi hw K hK
                have e5 := hR.f5 (hw 5 (by simp))
                simp only [e5]
                clear e5
                go_simp
                refine hK.out _ _ ?_
                exact ⟨(fun jz => if jz = 101 then .slice (some ⟨gc, 0, none⟩) N (2 ^ i) else if jz = 102 then .int .i64 (N : Int) else v jz), rfl, ⟨hR.st, hR.w2.o, hR.w3.o, (fun _ j hj => upd_on (hw j hj)), hR.w7.o, hR.w9.o, hR.w10.o, hR.w11.o, hR.w12.o, hR.w13.o, hR.f0.k, hR.f1.k, hR.f2.k, hR.f3.k, hR.f4.k, (fun _ => rfl), (fun _ => rfl), hR.f7.k, hR.f8.k, hR.f9.k, hR.f10.k, hR.f11.k, hR.f12.k, hR.f13.k⟩⟩
              refine EachOf.cons [6] rfl (by kernel_rfl) ?_ ?_
              · rintro L A W ⟨v, rfl, hR⟩ hi hw K hK
                have e6 := hR.f6 (hw 6 (by simp))
                simp only [e6]
                clear e6
                go_simp
                refine hK.out _ _ ?_
                exact ⟨(fun jz => if jz = 102 then .int .i64 (N : Int) else if jz = 103 then .int .i64 ((N - 1 : Nat) : Int) else v jz), rfl, ⟨hR.st, hR.w2.o, hR.w3.o, hR.w6.o, (fun _ j hj => upd_on (hw j hj)), hR.w9.o, hR.w10.o, hR.w11.o, hR.w12.o, hR.w13.o, hR.f0.k, hR.f1.k, hR.f2.k, hR.f3.k, hR.f4.k, hR.f5.k, (fun _ => rfl), (fun _ => rfl), hR.f8.k, hR.f9.k, hR.f10.k, hR.f11.k, hR.f12.k, hR.f13.k⟩⟩
              refine EachOf.cons [] rfl (by kernel_rfl) ?_ ?_
              · rintro L A W ⟨v, rfl, hR⟩ hi hw K hK
                go_simp
                refine hK.out _ _ ?_
                exact ⟨(fun jz => if jz = 104 then .int .i64 (j : Int) else v jz), rfl, ⟨hR.st, hR.w2.o, hR.w3.o, hR.w6.o, hR.w7.o, hR.w9.o, hR.w10.o, hR.w11.o, hR.w12.o, hR.w13.o, hR.f0.k, hR.f1.k, hR.f2.k, hR.f3.k, hR.f4.k, hR.f5.k, hR.f6.k, hR.f7.k, (fun _ => rfl), hR.f9.k, hR.f10.k, hR.f11.k, hR.f12.k, hR.f13.k⟩⟩
              refine EachOf.cons [7, 8] rfl (by kernel_rfl) ?_ ?_
              · rintro L A W ⟨v, rfl, hR⟩ hi hw K hK
                have e7 := hR.f7 (hw 7 (by simp))
                have e8 := hR.f8 (hw 8 (by simp))
                simp only [e7, e8]
                clear e7 e8
                go_simp
                refine hK.out _ _ ?_
                exact ⟨(fun jz => if jz = 103 then .int .i64 ((N - 1 : Nat) : Int) else if jz = 104 then .int .i64 (j : Int) else if jz = 105 then .int .i64 (d : Int) else v jz), rfl, ⟨hR.st, hR.w2.o, hR.w3.o, hR.w6.o, hR.w7.o, (fun _ j hj => upd_on (hw j hj)), hR.w10.o, hR.w11.o, hR.w12.o, hR.w13.o, hR.f0.k, hR.f1.k, hR.f2.k, hR.f3.k, hR.f4.k, hR.f5.k, hR.f6.k, (fun _ => rfl), (fun _ => rfl), (fun _ => rfl), hR.f10.k, hR.f11.k, hR.f12.k, hR.f13.k⟩⟩
              refine EachOf.cons [4, 9] rfl (by kernel_rfl) ?_ ?_
              · rintro L A W ⟨v, rfl, hR⟩ hi hw K hK
                have e4 := hR.f4 (hw 4 (by simp))
                have e9 := hR.f9 (hw 9 (by simp))
                simp only [e4, e9]
                clear e4 e9
                go_simp
                refine hK.out _ _ ?_
                exact ⟨(fun jz => if jz = 100 then .slice (some ⟨gc, 0, none⟩) N (2 ^ i) else if jz = 105 then .int .i64 (d : Int) else if jz = 106 then .pointer (some ⟨gc, d, none⟩) else v jz), rfl, ⟨hR.st, hR.w2.o, hR.w3.o, hR.w6.o, hR.w7.o, hR.w9.o, (fun _ j hj => upd_on (hw j hj)), hR.w11.o, hR.w12.o, hR.w13.o, hR.f0.k, hR.f1.k, hR.f2.k, hR.f3.k, (fun _ => rfl), hR.f5.k, hR.f6.k, hR.f7.k, hR.f8.k, (fun _ => rfl), (fun _ => rfl), hR.f11.k, hR.f12.k, hR.f13.k⟩⟩
              refine EachOf.cons [10] rfl (by kernel_rfl) ?_ ?_
              · rintro L A W ⟨v, rfl, hR⟩ hi hw K hK
                have e10 := hR.f10 (hw 10 (by simp))
                simp only [e10]
                clear e10
                have q0 := (hR.st.cell (p := ⟨gc, d, none⟩) LY.out.2).trans LY.out.1
                go_simp
                refine hK.out _ _ ?_
                exact ⟨(fun jz => if jz = 106 then .pointer (some ⟨gc, d, none⟩) else if jz = 107 then .int .i64 (-x) else v jz), rfl, ⟨hR.st, hR.w2.o, hR.w3.o, hR.w6.o, hR.w7.o, hR.w9.o, hR.w10.o, (fun _ j hj => upd_on (hw j hj)), hR.w12.o, hR.w13.o, hR.f0.k, hR.f1.k, hR.f2.k, hR.f3.k, hR.f4.k, hR.f5.k, hR.f6.k, hR.f7.k, hR.f8.k, hR.f9.k, (fun _ => rfl), (fun _ => rfl), hR.f12.k, hR.f13.k⟩⟩
              refine EachOf.cons [11] rfl (by kernel_rfl) ?_ ?_
              · rintro L A W ⟨v, rfl, hR⟩ hi hw K hK
                have e11 := hR.f11 (hw 11 (by simp))
                simp only [e11]
                clear e11
                go_simp
                refine hK.out _ _ ?_
                exact ⟨(fun jz => if jz = 107 then .int .i64 (-x) else if jz = 108 then .int .i64 x else v jz), rfl, ⟨hR.st, hR.w2.o, hR.w3.o, hR.w6.o, hR.w7.o, hR.w9.o, hR.w10.o, hR.w11.o, (fun _ j hj => upd_on (hw j hj)), hR.w13.o, hR.f0.k, hR.f1.k, hR.f2.k, hR.f3.k, hR.f4.k, hR.f5.k, hR.f6.k, hR.f7.k, hR.f8.k, hR.f9.k, hR.f10.k, (fun _ => rfl), (fun _ => rfl), hR.f13.k⟩⟩
              refine EachOf.cons [3, 12] rfl (by kernel_rfl) ?_ ?_
              · rintro L A W ⟨v, rfl, hR⟩ hi hw K hK
                have e3 := hR.f3 (hw 3 (by simp))
                have e12 := hR.f12 (hw 12 (by simp))
                simp only [e3, e12]
                clear e3 e12
                go_simp
                refine hK.out _ _ ?_
                exact ⟨(fun jz => if jz = 99 then .int .i64 x else if jz = 108 then .int .i64 x else if jz = 109 then .bool false else v jz), rfl, ⟨hR.st, hR.w2.o, hR.w3.o, hR.w6.o, hR.w7.o, hR.w9.o, hR.w10.o, hR.w11.o, hR.w12.o, (fun _ j hj => upd_on (hw j hj)), hR.f0.k, hR.f1.k, hR.f2.k, (fun _ => rfl), hR.f4.k, hR.f5.k, hR.f6.k, hR.f7.k, hR.f8.k, hR.f9.k, hR.f10.k, hR.f11.k, (fun _ => rfl), (fun _ => rfl)⟩⟩
              exact EachOf.nil
            rintro L A W ⟨v, rfl, hR⟩ hL
            have hst := hR.st
            have e13 := hR.f13 (hL 13 (by simp))
            simp only [e13]
            have T := Lib.hid (below_on S.out hst)
            clear e13 hst hR hL LX LY S
            go_wp2_with fail
            go_roundg (N - (j + 1))
            case measure => omega
            case rel => exact ⟨j + 1, rfl, rfl, by omega, T⟩
          · have e : j = N := by omega
            subst e
            have HBE := Lib.hid (below_on HBD.out S.out)
            clear S HRA2 HRC2 HBD
            have HB7 := Lib.hid (below_on HW.out HBE.out)
            have tot2 : smS (fun _ => true) (fun j => f (i - 1 - j)) i = smS (fun _ => true) f i := smS_rev i (fun _ => true) f
            have tot3 : smS (fun _ => true) (fun j => -f j) i = -smS (fun _ => true) f i := smS_neg _ f i
            clear HAB HN hN
            by_cases hz : smS (fun _ => true) f i = 0
            · have HZ := Lib.hid hz
              have KE : KP i (fun j => f (i - 1 - j)) = KP i f := rv_mst (by omega) (fun _ _ => rfl)
              have KE3 : KP i (fun j => -f j) = KP i f := (mst_zeros (by omega) (fun s => by
                show smS (bitI i s) f i = 0 ↔ smS (bitI i s) (fun j => -f j) i = 0
                rw [smS_neg]; omega) _ (by omega)).symm
              have Q1 := fun W (h : Below w.heap.size w W) => Lib.hid (Parts_yes ra i c f W (HR.out.on h) (HD.out.on h) (by omega) HOK.out hz)
              have Q2 := fun W (h : Below W1.heap.size W1 W) => Lib.hid (Parts_yes ba i bc _ W (HBK.out.on h) (HD.out.on (below_on HW.out h)) (by omega) HK2.out (by rw [tot2]; exact hz))
              have Q3 := fun W (h : Below W1.heap.size W1 W) => Lib.hid (Parts_yes ma i mc _ W (HMN.out.on h) (HD.out.on (below_on HW.out h)) (by omega) HK3.out (by rw [tot3, hz]; rfl))
              rw [KE] at Q2
              rw [KE3] at Q3
              have hK := KP_le i f (by omega)
              have HMO : Hid (KP i f + 1 ≤ KP (i + 2) (moreF i f m)) := more_mst (by omega) (fun l hl => by unfold moreF; rw [if_pos hl]) (by
                unfold moreF
                rw [if_neg (by omega), if_pos rfl, if_neg (by omega), if_neg (by omega)]; omega)
              have hK2 := KP_le (i + 2) (moreF i f m) (by omega)
              have okM : okF (i + 2) (moreF i f m) = true := okF_of HOK.out (fun l hl => by
                unfold moreF
                by_cases q : l < i
                · rw [if_pos q]; exact .inl ⟨l, q, .inl rfl⟩
                · rw [if_neg q]
                  refine .inr ?_
                  split <;> omega)
              have Q4 := fun W pa pc (h : Below w.heap.size w W) (hr : IRow W pa (i + 2) (moreF i f m)) => Lib.hid (Parts_yes pa (i + 2) pc (moreF i f m) W hr (HD.out.on h) (by omega) okM (by rw [tot_more]; exact hz))
              have CS := fun W pa pc qa qc ps qs (h1 : LL W pa (idxs i ps)) (h2 : LL W qa (idxs i qs)) (h3 : ps.length = KP i f) (h4 : qs.length = KP i f) (h5 : ps = qs) => Lib.hid (same_true (KP i f) (KP i f) pa pc (idxs i ps) qa qc (idxs i qs) W h1 h2 (by unfold idxs; rw [List.length_map, h3]) (by unfold idxs; rw [List.length_map, h4]) (by omega) (by omega) (idxs_short i ps (by omega)) (idxs_short i qs (by omega)) (by rw [h5]))
              have HPQ : Hid (∀ ps qs, PtR (fun s => smS (bitI i s) f i) (fun s => (mst i (fun s => smS (bitI i s) f i) s : Int)) (2 ^ i - 1) ps → PtR (fun s => smS (bitI i s) (fun j => -f j) i) (fun s => (mst i (fun s => smS (bitI i s) (fun j => -f j) i) s : Int)) (2 ^ i - 1) qs → ps = qs) := fun ps qs h1 h2 => ptr_uniq (fun s => by
                show smS (bitI i s) f i = 0 ↔ smS (bitI i s) (fun j => -f j) i = 0
                rw [smS_neg]; omega) (fun s hs => by
                have := mst_zeros (n := i) (F := fun s => smS (bitI i s) f i) (G := fun s => smS (bitI i s) (fun j => -f j) i) (by omega) (fun s => by
                  show smS (bitI i s) f i = 0 ↔ smS (bitI i s) (fun j => -f j) i = 0
                  rw [smS_neg]; omega) s (by omega)
                show ((mst i _ s : Nat) : Int) = ((mst i _ s : Nat) : Int)
                rw [this]) (by omega) h1 h2
              have HHZ := Lib.hid (And.intro hz (And.intro tot2 tot3))
              clear KE KE3 okM hz tot2 tot3
              generalize KP i f = K at *
              generalize KP (i + 2) (moreF i f m) = K2 at *
              go_upto_region 26 with (first
                | (go_at_call 24; (with_reducible refine (((Q1 _ HB7.out).out).mono ?_)); rintro e w11 ⟨hb11, ps, pa, pc, rfl, hpl, hpp, hpa⟩; have HB11 := Lib.hid (below_on HBE.out hb11))
                | (go_at_call 24; (with_reducible refine (((Q2 _ HB11.out).out).mono ?_)); rintro e w12 ⟨hb12, ps2, pa2, pc2, rfl, _, _, _⟩; have HB12 := Lib.hid (below_on HB11.out hb12))
                | (go_at_call 24; (with_reducible refine (((Q3 _ HB12.out).out).mono ?_)); rintro e w13 ⟨hb13, qs, qa, qc, rfl, hql, hqq, hqa⟩; have HB13 := Lib.hid (below_on HB12.out hb13)))
              have CS1 := CS w13 pa pc qa qc ps qs ((hpa.on hb12).on hb13) hqa hpl hql (HPQ.out ps qs hpp hqq)
              clear hpl hpp hpa hql hqq hqa hb11 hb12 hb13 CS HPQ Q1 Q2 Q3 HB11 HB12
              go_upto_region 30 with (first
                | (go_at_call 27; (with_reducible refine ((CS1.out).mono ?_)); rintro e w14 ⟨rfl, hb14⟩))
              have HB14 := Lib.hid (below_on HW.out (below_on HB13.out hb14))
              have KC := (CC w14 HB14.out).out
              have wm : IntKind.i64.wrap m = m := IntWalk.i64_in _ (by omega)
              have wm2 : IntKind.i64.wrap (-m) = -m := IntWalk.i64_in _ (by omega)
              have wk2 : IntKind.i64.wrap ((K : Int) + 1) = ((K + 1 : Nat) : Int) := by rw [IntWalk.i64_in _ (by omega)]; omega
              obtain ⟨i0, hi0, hz0, hz1, hz2⟩ := info_parts (show (Tryd.prog.info? 3).map (fun i => (i.zero, i.size, i.bytes)) = some (some (Value.int IntKind.i64 0), 1, 8) by kernel_rfl)
              have HI := Lib.hid (And.intro hi0 (And.intro hz0 (And.intro hz1 hz2)))
              clear CS1 hb14 hi0 hz0 hz1 hz2 CC
              go_upto_region 31 with (first
                | (go_at_call 31; (with_reducible refine (KC.mono ?_)); clear KC; rintro e w15 ⟨ca, cc, rfl, hown, hb15⟩; (have B5 : Hid (Below w15.heap.size w15 (w15.alloc (Obj.cells #[.int .i64 m, .int .i64 (-m)] 3))) := ab _ _); (have O5 : Hid ((w15.alloc (Obj.cells #[.int .i64 m, .int .i64 (-m)] 3)).ownsRow w14.heap.size 3 1 (.slice ca i cc) i (rowI i f)) := own_on hown B5.out); (have A5 : Hid (∀ l u, [Value.int .i64 m, Value.int .i64 (-m)][l]? = some u → (w15.alloc (Obj.cells #[.int .i64 m, .int .i64 (-m)] 3)).cell? ((⟨w15.heap.size, 0, none⟩ : Addr).add l) = some u) := two_news w15 m); (have L5 : Hid (w14.heap.size ≤ (w15.alloc (Obj.cells #[.int .i64 m, .int .i64 (-m)] 3)).heap.size) := Nat.le_trans hb15.size B5.out.size))
                | (at_builtin; refine wpList_append_lies _ rfl _ _ 22 rfl w14.heap.size 3 i0 (.int .i64 0) 1 8 Tryd.underlying22 HI.out.1 HI.out.2.1 HI.out.2.2.1 HI.out.2.2.2 rfl (by decide) _ _ _ rfl O5.out ⟨w15.heap.size, 0, none⟩ 2 2 [.int .i64 m, .int .i64 (-m)] rfl rfl A5.out (by intro u hu; simp at hu; rcases hu with rfl | rfl <;> rfl) (by omega) (by unfold maxLen; omega) (by omega) L5.out _ rfl ?_; intro q5 cap5 W5 hgo hgrow hat hqlt; (have hA := grown_only (Below.refl _ _) hgrow); (have HB16 : Hid (Below w14.heap.size w14 W5) := (below_on hb15 B5.out).trans (hA.below (below_on hb15 B5.out).size (fun c hc => (O5.out.lt c hc).1))); (have hir : IRow W5 (some ⟨q5, 0, none⟩) (i + 2) (moreF i f m) := by (rw [moreF_list] at hgo; exact (own_or hgo).irow)); have K4 := (Q4 W5 (some ⟨q5, 0, none⟩) cap5 (below_on HB14.out HB16.out) hir).out)
                | (go_at_call 24; (with_reducible refine (K4.mono ?_)); rintro e w17 ⟨hb17, rs, sa, sc, rfl, _, _, _⟩))
              have HK12 : (K : Int) + 1 ≤ (K2 : Int) := by have := HMO.out; omega
              have HK13 : ((K + 1 : Nat) : Int) ≤ (K2 : Int) := by omega
              have HK14 : K + 1 ≤ K2 := HMO.out
              go_wp2_with fail
              go_ret
              exact ⟨by simp, below_on (below_on HB14.out HB16.out) hb17⟩
            · have Q1 := fun W (h : Below w.heap.size w W) => Lib.hid (Parts_no ra i c f W (HR.out.on h) (HD.out.on h) (by omega) HOK.out hz)
              have Q2 := fun W (h : Below W1.heap.size W1 W) => Lib.hid (Parts_no ba i bc _ W (HBK.out.on h) (HD.out.on (below_on HW.out h)) (by omega) HK2.out (by rw [tot2]; exact hz))
              have Q3 := fun W (h : Below W1.heap.size W1 W) => Lib.hid (Parts_no ma i mc _ W (HMN.out.on h) (HD.out.on (below_on HW.out h)) (by omega) HK3.out (by rw [tot3]; omega))
              have CS := fun W => Lib.hid (same_true 0 0 none 0 [] none 0 [] W (fun h => by simp at h) (fun h => by simp at h) rfl rfl (by decide) (by decide) (fun l h => by cases h) (fun l h => by cases h) rfl)
              clear tot2 tot3 hz
              go_wp2_with (first
                | (go_at_call 24; (with_reducible refine (((Q1 _ HB7.out).out).mono ?_)); rintro e w11 ⟨hb11, rfl⟩; have HB11 := Lib.hid (below_on HBE.out hb11))
                | (go_at_call 24; (with_reducible refine (((Q2 _ HB11.out).out).mono ?_)); rintro e w12 ⟨hb12, rfl⟩; have HB12 := Lib.hid (below_on HB11.out hb12))
                | (go_at_call 24; (with_reducible refine (((Q3 _ HB12.out).out).mono ?_)); rintro e w13 ⟨hb13, rfl⟩; have HB13 := Lib.hid (below_on HB12.out hb13))
                | (go_at_call 27; (with_reducible refine (((CS _).out).mono ?_)); rintro e w14 ⟨rfl, hb14⟩))
              go_ret
              exact ⟨rfl, below_on HW.out (below_on HB13.out hb14)⟩
  · have q : (givE n f != 0) = true := by simpa using hg
    generalize givE n f = er at *
    clear hg
    go_enter Tryd.func8, Tryd.ntmps8
    go_wp2_with (first
      | (go_at_call 9; (with_reducible refine ((CA.out).mono ?_)); rintro e w2 ⟨rfl, hb2⟩)
      | (go_at_call 13; (with_reducible refine (((CG _ hb2).out).mono ?_)); rintro e w3 ⟨rfl, rfl⟩))
    go_ret
    exact ⟨rfl, hb2⟩
theorem order_at (ra : Option Addr) (n c : Nat) (f : Nat → Int) (m : Int) (w : World) (hd : DB w) (hr : IRow w ra n f) (hn : n ≤ 9223372036854775807) (m0 : 0 ≤ m) (m1 : m ≤ 4294967295) :
    Calls Tryd.prog 8 #[.slice ra n c, .int .u32 m] w fun e w' => e = .returned (.bool true) ∧ Below w.heap.size w w' :=
  lawOrder_any ra n c f m w hr hd hn m0 m1
end Go.Proofs.YtlgpckjhnohhhaaDoor
