/- Layer 7: the law SubsetsMost, walked. -/
import Derived.Test.YtjonhhmapbibaaaDoorUMsw
namespace Go.Proofs.YtjonhhmapbibaaaDoor
open Go.ChangeShapes Go.WideShapes Go.ChangeAt Go.RowKit Go.Joins Go.Deep Go.Shelf Go.Maps
set_option linter.unusedVariables false

def totS (f : Nat → Int) (n : Nat) : Int := smS (fun _ => true) f n
theorem totS_succ (f : Nat → Int) (n : Nat) : totS f (n + 1) = totS f n + f n := by unfold totS; rw [smS]; simp
theorem total_any (ra : Option Addr) (n c : Nat) (f : Nat → Int) (w : World) (hr : IRow w ra n f) (hn : n ≤ 11) (hf : ∀ i, i < n → -1125899906842624 ≤ f i ∧ f i ≤ 1125899906842624) :
    Calls Tryd.prog 15 #[.slice ra n c] w fun e w' => e = .returned (.int .i64 (totS f n)) ∧ w = w' := by
  have HR := Lib.hid hr
  have HB := Lib.hid (fun k (hk : k ≤ n) => smS_bd (p := fun _ => true) (f := f) (n := k) (B := 1125899906842624) (by decide) (fun i hi => hf i (by omega)))
  clear hr hf
  go_enter Tryd.func15, Tryd.ntmps15
  go_wp2_with fail
  go_loopg [8, 3] n (fun g s8 s3 wx => ∃ i : Nat, s8 = .int .i64 i ∧ s3 = .int .i64 (totS f i) ∧ g = n - i ∧ i ≤ n ∧ wx = w)
  case atStart => exact ⟨0, rfl, rfl, rfl, Nat.zero_le _, rfl⟩
  case round =>
    obtain ⟨i, rfl, rfl, rfl, hi, rfl⟩ := hrel
    by_cases hlt : i < n
    · obtain ⟨g, o, rfl, hl, hc⟩ := HR.out (by omega)
      have wi : IntKind.i64.wrap ((i : Int) + 1) = ((i + 1 : Nat) : Int) := by rw [IntWalk.i64_in _ (by omega)]; omega
      have li : (i : Int) < (n : Int) := by omega
      have p1 := hc i hlt
      have b1 := HB.out (i + 1) (by omega)
      have ws : IntKind.i64.wrap (totS f i + f i) = totS f (i + 1) := by
        rw [← totS_succ]; unfold totS; exact IntWalk.i64_in _ (by omega)
      generalize f i = y at *
      generalize totS f i = u at *
      generalize hT : totS f (i + 1) = u2 at *
      clear hc b1 HB HR
      go_wp2_with fail
      go_roundg (n - (i + 1))
      case measure => omega
      case rel => exact ⟨i + 1, rfl, by rw [hT], rfl, by omega, rfl⟩
    · have e : i = n := by omega
      subst e
      have li : ¬ (i : Int) < (i : Int) := by omega
      go_wp2_with fail
      go_ret
      exact ⟨rfl, rfl⟩
theorem u8law : Keyed Tryd.prog 5 := int_keyed Tryd.underlying5
theorem u8zero (w : World) : (zeroValue 3).run Tryd.prog w = .ok (.int .i64 0) w := by kernel_rfl
theorem u8key (c : Nat) (h : c < 256) : keyOf Tryd.prog 5 (.int .u8 (c : Int)) = some (.int .u8 (c : Int)) := keyOf_int_mk Tryd.underlying5 (by
  show (decide (0 ≤ (c : Int)) && decide ((c : Int) ≤ 255)) = true
  simp; omega)
theorem whole_sum (n : Nat) (f : Nat → Int) : smS (bitI n (2 ^ n - 1)) f n = totS f n := smS_congr fun i hi => by
  unfold bitI
  rw [whole_bit]
  exact decide_eq_true (by omega)
def partV (f : Nat → Int) (x : List Nat) (j : Nat) : List Value := (List.range j).map fun k => Value.int .i64 (f (x.getD k 0))
theorem partV_succ (f : Nat → Int) (x : List Nat) (j : Nat) : partV f x (j + 1) = partV f x j ++ [.int .i64 (f (x.getD j 0))] := by
  unfold partV
  rw [List.range_succ, List.map_append]; rfl
/-- What is read of one part. -/
structure RowP (n : Nat) (f : Nat → Int) (W : World) (g : Nat) (o i : Nat) (x : List Nat) (qa : Option Addr) (qc : Nat) : Prop where
  cell : W.cell? ⟨g, o + i, none⟩ = some (.slice qa x.length qc)
  lt : g < W.heap.size
  idx : Idx W qa x
  bd : ∀ j, j < x.length → x.getD j 0 < n
  len : x.length ≤ n
  zero : ∀ W2 pa pc, Below W.heap.size W W2 → IRow W2 pa x.length (fun i => f (x.getD i 0)) → Calls Tryd.prog 16 #[.slice pa x.length pc] W2 fun e w' => Below W2.heap.size W2 w' ∧ ∃ qa qc, e = .returned (.tuple #[.slice qa x.length qc, .int .i64 0])
  pos : 0 < x.length
theorem QL.form {W : World} {base : Nat} {v : Value} {ls : List (List Nat)} {rows : List Value} (h : QL W base v ls rows) (h0 : 0 < ls.length) : ∃ tg tc, v = .slice (some ⟨tg, 0, none⟩) ls.length tc ∧ base ≤ tg ∧ tg < W.heap.size := by
  rcases h.pl.top.2 with ⟨_, h1⟩ | ⟨g, cap, cur, rfl, hb, hh, _⟩
  · omega
  · exact ⟨g, cap, rfl, hb, (Array.getElem?_eq_some_iff.1 hh).1⟩
theorem QL.cell {W : World} {base tg tc k : Nat} {ls : List (List Nat)} {rows : List Value} {r : Value} (h : QL W base (.slice (some ⟨tg, 0, none⟩) ls.length tc) ls rows) (hr : rows[k]? = some r) (hk : k < ls.length) : W.cell? ⟨tg, k, none⟩ = some r := by
  have := h.pl.top.cells (g := tg) rfl k r hr
  rwa [show (⟨tg, 0, none⟩ : Addr).add k = ⟨tg, k, none⟩ by unfold Addr.add; split <;> simp_all] at this
theorem MpI.ne {W : World} {b k t : Nat} {D : DataW Unit} (h : MpI W b k t D) {base : Nat} {ty : TypeId} {m n q : Nat} {v : Value} {xs : List Value} (ho : W.ownsRow base ty m v n xs) (hq : v.ownBlock = some q) : b ≠ q := fun e => by
  obtain ⟨es, ck, hb, _⟩ := h.own
  obtain ⟨_, _, cur, h2⟩ := own_blk ho hq
  rw [← e, hb] at h2
  cases h2
theorem MpI.entries {W : World} {b k t : Nat} {D : DataW Unit} (h : MpI W b k t D) : ∃ es ck, W.heap[b]? = some (.map es ck) := by
  obtain ⟨es, ck, hb, _⟩ := h.own
  exact ⟨es, ck, hb⟩
theorem mem_set_app {ls : List (List Nat)} {k x B : Nat} (hk : k < ls.length) (h : ∀ l ∈ ls, l.length ≤ B) : ∀ l ∈ ls.set k (ls.getD k [] ++ [x]), l.length ≤ B + 1 := fun l hl => by
  rcases List.mem_or_eq_of_mem_set hl with h1 | h1
  · have := h l h1; omega
  · subst h1
    have e : ls.getD k [] = ls[k] := by simp [List.getD, hk]
    have := h _ (List.getElem_mem hk)
    rw [e]
    simp; omega
set_option maxRecDepth 100000 in
set_option maxHeartbeats 64000000 in
theorem lawMost_any (ra : Option Addr) (n c : Nat) (f : Nat → Int) (ua : Option Addr) (un uc : Nat) (uf : Nat → Nat) (w : World) (hr : IRow w ra n f) (hd : DB w) (hn : n ≤ 9223372036854775807) (hu : URow w ua un uf) (hun : un ≤ 9223372036854775807) :
    Calls Tryd.prog 4 #[.slice ra n c, .slice ua un uc] w fun e w' => e = .returned (.bool true) ∧ Below w.heap.size w w' := by
  have HR := Lib.hid hr
  have HU := Lib.hid hu
  have CA := Lib.hid (awake_any w hd)
  have HD := Lib.hid hd
  have CG := fun W (h : Below w.heap.size w W) => Lib.hid (Given_any ra n c f W (HR.out.on h) hn)
  clear hr hd hu
  by_cases hn8 : 8 < n
  · have q1 : (n : Int) > 8 := by omega
    have q1d : decide ((8 : Int) < (n : Int)) = true := decide_eq_true (by omega)
    go_enter Tryd.func4, Tryd.ntmps4
    go_wp2_with (go_at_call 5; (with_reducible refine ((CA.out).mono ?_)); rintro e w2 ⟨rfl, hb2⟩)
    go_ret
    exact ⟨rfl, hb2⟩
  have q1 : ¬ (n : Int) > 8 := by omega
  have q1d : decide ((8 : Int) < (n : Int)) = false := decide_eq_false (by omega)
  by_cases hg : givE n f = 0
  case neg =>
    have q2 : (givE n f != 0) = true := by simpa using hg
    generalize givE n f = er at *
    clear hg
    go_enter Tryd.func4, Tryd.ntmps4
    go_wp2_with (first
      | (go_at_call 5; (with_reducible refine ((CA.out).mono ?_)); rintro e w2 ⟨rfl, hb2⟩)
      | (go_at_call 11; (with_reducible refine (((CG _ hb2).out).mono ?_)); rintro e w3 ⟨rfl, rfl⟩))
    go_ret
    exact ⟨rfl, hb2⟩
  have hok : okF n f = true := by
    unfold givE at hg
    split at hg
    · cases hg
    · split at hg
      · rename_i h1 h2; exact h2
      · cases hg
  rw [hg] at CG
  by_cases hun20 : 20 < un
  · have q3 : (un : Int) > 20 := by omega
    have q3d : decide ((20 : Int) < (un : Int)) = true := decide_eq_true (by omega)
    go_enter Tryd.func4, Tryd.ntmps4
    go_wp2_with (first
      | (go_at_call 5; (with_reducible refine ((CA.out).mono ?_)); rintro e w2 ⟨rfl, hb2⟩)
      | (go_at_call 11; (with_reducible refine (((CG _ hb2).out).mono ?_)); rintro e w3 ⟨rfl, rfl⟩))
    go_ret
    exact ⟨rfl, hb2⟩
  have q3 : ¬ (un : Int) > 20 := by omega
  have q3d : decide ((20 : Int) < (un : Int)) = false := decide_eq_false (by omega)
  have hf := of_decide_eq_true hok
  have CP := fun W (h : Below w.heap.size w W) => Lib.hid (Parts_ok ra n c f W (HR.out.on h) (HD.out.on h) (by omega) hok)
  have CT := fun W (h : Below w.heap.size w W) => Lib.hid (total_any ra n c f W (HR.out.on h) (by omega) hf)
  have CC := fun W (h : Below w.heap.size w W) pa pc zss (hz : LZ W pa zss) h1 h2 => Lib.hid (Check_any ra n c f pa pc zss W (HR.out.on h) (by omega) hok hz h1 h2)
  rw [whole_sum] at CP
  by_cases hT : totS f n = 0
  case neg =>
    have q4 : (totS f n != 0) = true := by simpa using hT
    have K1 := fun W (h : Below w.heap.size w W) => Lib.hid (show Calls Tryd.prog 9 #[.slice ra n c] W fun e w' => Below W.heap.size W w' ∧ e = .returned (.tuple #[.slice none 0 0, .int .i64 18]) from ((CP W h).out).mono fun e w' ⟨hb, hh⟩ => by
      rcases hh with ⟨_, h⟩ | ⟨h, _⟩
      · exact ⟨hb, h⟩
      · exact absurd h hT)
    clear CP CC hf hok hT
    generalize totS f n = tt at *
    go_enter Tryd.func4, Tryd.ntmps4
    go_wp2_with (first
      | (go_at_call 5; (with_reducible refine ((CA.out).mono ?_)); rintro e w2 ⟨rfl, hb2⟩)
      | (go_at_call 11; (with_reducible refine (((CG _ hb2).out).mono ?_)); rintro e w3 ⟨rfl, rfl⟩)
      | (go_at_call 9; (with_reducible refine (((K1 _ hb2).out).mono ?_)); rintro e w4 ⟨hb4, rfl⟩; have HB4 := Lib.hid (below_on hb2 hb4))
      | (go_at_call 15; (with_reducible refine (((CT _ HB4.out).out).mono ?_)); rintro e w5 ⟨rfl, rfl⟩))
    go_ret
    exact ⟨rfl, HB4.out⟩
  rw [hT] at CT
  have hwn : smS (bitI n (2 ^ n - 1)) f n = 0 := by rw [whole_sum]; exact hT
  have h2n := Nat.two_pow_pos n
  have hN : 2 ^ n ≤ 256 := Nat.pow_le_pow_right (show 2 > 0 by decide) (show n ≤ 8 by omega)
  have K1 := fun W (h : Below w.heap.size w W) => Lib.hid (show Calls Tryd.prog 9 #[.slice ra n c] W fun e w' => Below W.heap.size W w' ∧ ∃ (m : Nat) (ps : List Nat) (pa : Option Addr) (pc : Nat), e = .returned (.tuple #[.slice pa m pc, .int .i64 0]) ∧ m = ps.length ∧ ps.length = mst n (fun s => smS (bitI n s) f n) (2 ^ n - 1) ∧ m ≤ 256 ∧ PtR (fun s => smS (bitI n s) f n) (fun s => (mst n (fun s => smS (bitI n s) f n) s : Int)) (2 ^ n - 1) ps ∧ LL w' pa (idxs n ps) from ((CP W h).out).mono fun e w' ⟨hb, hh⟩ => by
    rcases hh with ⟨h, _⟩ | ⟨_, ps, v, rows, h1, h2, h3⟩
    · exact absurd hT h
    · obtain ⟨pa, pc, rfl⟩ := own_form h3.top
      have e : (idxs n ps).length = ps.length := by unfold idxs; simp
      have hl := h3.ll
      rw [e] at h1
      have hlen : ps.length = mst n (fun s => smS (bitI n s) f n) (2 ^ n - 1) := h2.len
      have hm := mst_le (n := n) (sm := fun s => smS (bitI n s) f n) (by omega) (2 ^ n - 1) (by omega)
      exact ⟨hb, ps.length, ps, pa, pc, h1, rfl, hlen, by omega, h2, hl⟩)
  have K2 := fun W pa pc (ps : List Nat) (h : Below w.heap.size w W) (hm : ps.length ≤ 256) (hp : PtR (fun s => smS (bitI n s) f n) (fun s => (mst n (fun s => smS (bitI n s) f n) s : Int)) (2 ^ n - 1) ps) (hl : LL W pa (idxs n ps)) => Lib.hid (show Calls Tryd.prog 10 #[.slice ra n c, .slice pa ps.length pc] W fun e w' => Below W.heap.size W w' ∧ e = .returned (.tuple #[.bool true, .int .i64 0]) from by
    have hlen : ((idxs n ps).map intZ).length = ps.length := by unfold idxs; simp
    have hrow : ∀ j, (rowZ ((idxs n ps).map intZ) j).length ≤ 9223372036854775807 := fun j => by
      rw [rowZ_intZ, intZ_len]
      by_cases hj : j < ps.length
      · obtain ⟨_, p, _, _, _, _, e⟩ := ptr_at (f := f) (show n ≤ 16 by omega) ps (2 ^ n - 1) j (by omega) hp hj
        rw [e]
        have : (ixs (bitI n p) n).length ≤ n := by unfold ixs; exact Nat.le_trans (List.length_filter_le _ _) (by simp)
        omega
      · rw [List.getD_eq_getElem?_getD, List.getElem?_eq_none (by unfold idxs; simp; omega)]; simp
    have := CC W h pa pc _ hl.lz (by omega) hrow
    rw [hlen] at this
    have hck := chk_parts (f := f) (show n ≤ 16 by omega) ps (2 ^ n - 1) [] (by omega) hwn hp (fun j hj => absurd hj (Nat.not_lt_zero j)) (by show 0 &&& _ = 0; simp) (by show 0 ||| _ = _; simp) (fun j hj hb => by show (0 : Int) ≤ _; omega)
    rw [List.nil_append] at hck
    rw [decide_eq_true hck] at this
    exact this.out)
  have K3 := fun W pa (ps : List Nat) (h : Below w.heap.size w W) (hp : PtR (fun s => smS (bitI n s) f n) (fun s => (mst n (fun s => smS (bitI n s) f n) s : Int)) (2 ^ n - 1) ps) (hl : LL W pa (idxs n ps)) i (hi : i < ps.length) => Lib.hid (show ∃ g o x qa qc, pa = some ⟨g, o, none⟩ ∧ RowP n f W g o i x qa qc from by
    obtain ⟨g, o, h1, h2, h3⟩ := hl (by unfold idxs; simp; omega)
    obtain ⟨qa, qc, h4, h5⟩ := h3 i (by unfold idxs; simpa using hi)
    obtain ⟨left, p, p1, p2, p3, p4, p5⟩ := ptr_at (f := f) (show n ≤ 16 by omega) ps (2 ^ n - 1) i (by omega) hp hi
    rw [p5] at h4 h5
    exact ⟨g, o, _, qa, qc, h1, h4, h2, h5, fun j hj => (ixs_rank hj).1, by unfold ixs; exact Nat.le_trans (List.length_filter_le _ _) (by simp), fun W2 ra2 c2 hb2 hr2 => Zero_part ra2 _ c2 n left p f W2 hr2 (HD.out.on (below_on h hb2)) (by omega) hok p1 p2 p3 p4 rfl, ixs_pos (Nat.lt_of_le_of_lt p2.le p1) p3⟩)
  have K4 := fun W pa pc (ls : List (List Nat)) (m : Nat) (h : Below w.heap.size w W) (hm : m = mst n (fun s => smS (bitI n s) f n) (2 ^ n - 1)) (hl : LL W pa ls) (h1 : ls.length ≤ 256) (h2 : ∀ l ∈ ls, l.length ≤ 256) => Lib.hid (show Calls Tryd.prog 10 #[.slice ra n c, .slice pa ls.length pc] W fun e w' => Below W.heap.size W w' ∧ ∃ b : Bool, e = .returned (.tuple #[.bool b, .int .i64 0]) ∧ (b = true → ls.length ≤ m) from by
    have := CC W h pa pc _ hl.lz (by rw [List.length_map]; omega) (fun j => by
      rw [rowZ_intZ, intZ_len]
      by_cases hj : j < ls.length
      · have e : ls.getD j [] = ls[j] := by simp [List.getD, hj]
        rw [e]
        have := h2 _ (List.getElem_mem hj)
        omega
      · rw [List.getD_eq_getElem?_getD, List.getElem?_eq_none (by omega)]; simp)
    rw [List.length_map] at this
    refine (this.out).mono fun e w' ⟨hb, he⟩ => ⟨hb, _, he, fun hc => ?_⟩
    have := chk_most (f := f) (show n ≤ 16 by omega) (of_decide_eq_true hc)
    rw [List.length_map] at this
    omega)
  obtain ⟨i0, hi0, hz0, hz1, hz2⟩ := info_parts (show (Tryd.prog.info? 3).map (fun i => (i.zero, i.size, i.bytes)) = some (some (Value.int IntKind.i64 0), 1, 8) by kernel_rfl)
  have HI := Lib.hid (And.intro hi0 (And.intro hz0 (And.intro hz1 hz2)))
  obtain ⟨j0, hj0, hk0, hk1, hk2⟩ := info_parts (show (Tryd.prog.info? 22).map (fun i => (i.zero, i.size, i.bytes)) = some (some (Value.slice none 0 0), 1, 24) by kernel_rfl)
  have HJ := Lib.hid (And.intro hj0 (And.intro hk0 (And.intro hk1 hk2)))
  clear hi0 hz0 hz1 hz2 hj0 hk0 hk1 hk2 CP CC hf hok hT hwn hg
  generalize mst n (fun s => smS (bitI n s) f n) (2 ^ n - 1) = mm at *
  generalize 2 ^ n = M at *
  have hmm := @run_makeMap Tryd.prog
  go_enter Tryd.func4, Tryd.ntmps4
  go_upto_region 11 with (first
    | (go_at_call 5; (with_reducible refine ((CA.out).mono ?_)); rintro e w2 ⟨rfl, hb2⟩)
    | (go_at_call 11; (with_reducible refine (((CG _ hb2).out).mono ?_)); rintro e w3 ⟨rfl, rfl⟩)
    | (go_at_call 9; (with_reducible refine (((K1 _ hb2).out).mono ?_)); rintro e w4 ⟨hb4, m, ps, pa, pc, rfl, hml, hmm2, hm256, hps, hll⟩; have HB4 := Lib.hid (below_on hb2 hb4); have HLL := Lib.hid hll; have HPS := Lib.hid hps; have K2P := Lib.hid (show Calls Tryd.prog 10 #[.slice ra n c, .slice pa m pc] w4 fun e w' => Below w4.heap.size w4 w' ∧ e = .returned (.tuple #[.bool true, .int .i64 0]) from by rw [hml]; exact (K2 w4 pa pc ps HB4.out (by omega) hps hll).out); have HML := Lib.hid (And.intro hml hmm2); clear hll hps hml hmm2)
    | (go_at_call 15; (with_reducible refine (((CT _ HB4.out).out).mono ?_)); rintro e w5 ⟨rfl, rfl⟩)
    | (go_at_call 10; (with_reducible refine ((K2P.out).mono ?_)); rintro e w6 ⟨hb6, rfl⟩; have HB6 := Lib.hid (below_on HB4.out hb6); have HL6 := Lib.hid (HLL.out.on hb6)))
  have K5 := fun W (h : Below w6.heap.size w6 W) i (hi : i < m) => K3 W pa ps (below_on HB6.out h) HPS.out (HL6.out.on h) i (by have := HML.out.1; omega)
  have hmm3 : m = mm := by have := HML.out; omega
  have K6 := fun W pa pc ls (h : Below w.heap.size w W) => K4 W pa pc ls m h hmm3
  clear K1 K2 K2P K3 K4 HLL HPS CT CG CA HML hmm3
  go_wp2_with fail
  go_loopg [72] m (fun g' s72 wx => ∃ i : Nat, s72 = .int .i64 i ∧ g' = m - i ∧ i ≤ m ∧ Hid (Below w6.heap.size w6 wx))
  case atStart => exact ⟨0, rfl, rfl, Nat.zero_le _, Below.refl _ _⟩
  case round =>
    obtain ⟨i, rfl, rfl, hi, S⟩ := hrel
    rename World => W1
    by_cases hlt : i < m
    · have wi : IntKind.i64.wrap ((i : Int) + 1) = ((i + 1 : Nat) : Int) := by rw [IntWalk.i64_in _ (by omega)]; omega
      have li : (i : Int) < (m : Int) := by omega
      obtain ⟨pg, po, x, qa, qc, rfl, RP⟩ := (K5 W1 S.out i hlt).out
      have p1 := RP.cell
      have HRP := Lib.hid RP
      have hxl := RP.len
      have hx0 := RP.pos
      obtain ⟨xl, hxl2⟩ : ∃ xl, x.length = xl := ⟨_, rfl⟩
      rw [hxl2] at p1 hxl hx0
      have HXL := Lib.hid hxl2
      have S1 : Hid (Below W1.heap.size W1 W1 ∧ W1.ownsRow W1.heap.size 3 1 (.slice none 0 0) 0 (partV f x 0)) := ⟨Below.refl _ _, rfl, .inl ⟨rfl, rfl⟩⟩
      clear RP hxl2
      go_wp2_with fail
      go_loopg [78, 11] xl (fun g' s78 s11 wx => ∃ j : Nat, s78 = .int .i64 j ∧ g' = xl - j ∧ j ≤ xl ∧ Hid (Below W1.heap.size W1 wx ∧ wx.ownsRow W1.heap.size 3 1 s11 j (partV f x j)))
      case atStart => exact ⟨0, rfl, rfl, Nat.zero_le _, S1⟩
      case round =>
        clear S1
        obtain ⟨j, rfl, rfl, hj, T⟩ := hrel
        rename World => W2
        obtain ⟨pa2, pc2, hpv⟩ := own_form T.out.2
        subst hpv
        by_cases hjl : j < xl
        · have wj : IntKind.i64.wrap ((j : Int) + 1) = ((j + 1 : Nat) : Int) := by rw [IntWalk.i64_in _ (by omega)]; omega
          have lj : (j : Int) < (xl : Int) := by omega
          obtain ⟨qg, qo, rfl, hql, hqc⟩ := HRP.out.idx (by have := HXL.out; omega)
          have p2 : W2.cell? ⟨qg, qo + j, none⟩ = some (.int .i64 ((x.getD j 0 : Nat) : Int)) := ((T.out.1).cell (p := ⟨qg, qo + j, none⟩) hql).trans (hqc j (by have := HXL.out; omega))
          have hk := HRP.out.bd j (by have := HXL.out; omega)
          have hsucc := partV_succ f x j
          obtain ⟨k, hkk⟩ : ∃ k, x.getD j 0 = k := ⟨_, rfl⟩
          rw [hkk] at p2 hk hsucc
          obtain ⟨lg, lo, rfl, hlg, hlc⟩ := HR.out (by omega)
          have p3 := ((below_on (below_on HB6.out S.out) T.out.1).cell (p := ⟨lg, lo + k, none⟩) hlg).trans (hlc k hk)
          have k1 : ¬ (k : Int) < 0 := by omega
          have k1d : decide ((k : Int) < 0) = false := decide_eq_false (by omega)
          have k2 : ¬ (k : Int) ≥ (n : Int) := by omega
          have k2d : decide ((n : Int) ≤ (k : Int)) = false := decide_eq_false (by omega)
          have k3 : (k : Int) < (n : Int) := by omega
          have HS := Lib.hid hsucc
          clear hqc hlc hkk hsucc
          obtain ⟨y, hy⟩ : ∃ y, f k = y := ⟨_, rfl⟩
          rw [hy] at p3 HS
          have B5 : Hid (Below W2.heap.size W2 (W2.alloc (Obj.cells #[.int .i64 y] 3))) := (Below.refl _ _).alloc (Nat.le_refl _) _
          have O5 : Hid ((W2.alloc (Obj.cells #[.int .i64 y] 3)).ownsRow W1.heap.size 3 1 (.slice pa2 j pc2) j (partV f x j)) := own_only T.out.2 (Only.of_below (S := fun _ => False) B5.out) (fun _ _ q => q)
          have A5 : Hid (∀ m u, [Value.int .i64 y][m]? = some u → (W2.alloc (Obj.cells #[.int .i64 y] 3)).cell? ((⟨W2.heap.size, 0, none⟩ : Addr).add m) = some u) := one_news (by simp [go_sem])
          have L5 : Hid (W1.heap.size ≤ (W2.alloc (Obj.cells #[.int .i64 y] 3)).heap.size) := by
            show _ ≤ _
            have := B5.out.size
            have := T.out.1.size
            omega
          have T1 := Lib.hid T.out.1
          clear T hy
          go_wp2_with (at_builtin; refine wpList_append_lies _ rfl _ _ 22 rfl W1.heap.size 3 i0 (.int .i64 0) 1 8 Tryd.underlying22 HI.out.1 HI.out.2.1 HI.out.2.2.1 HI.out.2.2.2 rfl (by decide) _ _ _ rfl O5.out ⟨W2.heap.size, 0, none⟩ 1 1 [.int .i64 y] rfl rfl A5.out (by intro u hu; simp at hu; subst hu; rfl) (by omega) (by unfold maxLen; omega) (by omega) L5.out _ rfl ?_; intro q5 cap5 W5 hown hgrow hat hqlt)
          have hA := grown_only (Below.refl _ _) hgrow
          have TT : Hid (Below W1.heap.size W1 W5 ∧ W5.ownsRow W1.heap.size 3 1 (.slice (some ⟨q5, 0, none⟩) (j + 1) cap5) (j + 1) (partV f x (j + 1))) := by
            rw [HS.out]
            exact ⟨(below_on T1.out B5.out).trans (hA.below (below_on T1.out B5.out).size (fun c hc => (O5.out.lt c hc).1)), hown⟩
          clear hown hgrow hat hqlt hA B5 O5 A5 L5
          go_roundg (xl - (j + 1))
          case measure => omega
          case rel => exact ⟨j + 1, rfl, rfl, by omega, TT⟩
        · have lj : ¬ (j : Int) < (xl : Int) := by omega
          have e : j = xl := by omega
          subst e
          obtain ⟨g, cp, hpv, hNR⟩ := own_nrow (f := fun i => f (x.getD i 0)) T.out.2 hx0
          injection hpv with hp1 hp2 hp3
          subst hp1
          have CZ := Lib.hid (HRP.out.zero W2 (some ⟨g, 0, none⟩) pc2 T.out.1 (by rw [HXL.out]; exact hNR.irow))
          rw [HXL.out] at CZ
          have HB2 := Lib.hid (below_on S.out T.out.1)
          clear hNR T hp3
          have qz : ((j : Int) != (j : Int)) = false := by simp
          go_wp2_with (go_at_call 16; (with_reducible refine ((CZ.out).mono ?_)); rintro e w8 ⟨hb8, za, zc, rfl⟩; have HB8 := Lib.hid (below_on HB2.out hb8))
          go_roundg (m - (i + 1))
          case measure => omega
          case rel => exact ⟨i + 1, rfl, rfl, by omega, HB8⟩
    · have li : ¬ (i : Int) < (m : Int) := by omega
      have HW1 := Lib.hid (below_on HB6.out S.out)
      clear S K5 HL6 HB6 HD
      obtain ⟨mb, hmb⟩ : ∃ b, b = W1.heap.size := ⟨_, rfl⟩
      have S2 : Hid (Below W1.heap.size W1 (W1.alloc (Obj.map #[] 0)) ∧ QL (W1.alloc (Obj.map #[] 0)) W1.heap.size (.slice none 0 0) [] [] ∧ MpI (W1.alloc (Obj.map #[] 0)) mb 0 0 (.map []) ∧ (∀ l ∈ ([] : List (List Nat)), l.length ≤ 0)) :=
        ⟨(Below.refl _ _).alloc (Nat.le_refl _) _, ⟨⟨⟨rfl, .inl ⟨rfl, rfl⟩⟩, fun i hi => by cases hi⟩, fun i j q r1 r2 h1 => by simp at h1⟩, ⟨by rw [hmb]; exact World.ownsMap_made _ _ _ _, isMap_empty, fun kl hk => by simp [has] at hk⟩, fun l hl => by cases hl⟩
      go_wp2_with fail
      rw [← hmb]
      go_loopg [116, 16] n (fun g' s116 s16 wx => ∃ (i : Nat) (ls : List (List Nat)) (rows : List Value) (D : DataW Unit), s116 = .int .i64 i ∧ g' = n - i ∧ i ≤ n ∧ ls.length ≤ i ∧ Hid (Below W1.heap.size W1 wx ∧ QL wx W1.heap.size s16 ls rows ∧ MpI wx mb i ls.length D ∧ ∀ l ∈ ls, l.length ≤ i))
      case atStart => exact ⟨0, [], [], .map [], rfl, rfl, Nat.zero_le _, Nat.le_refl _, S2⟩
      case round =>
        clear S2
        obtain ⟨i, ls, rows, D, rfl, rfl, hi2, hls, U⟩ := hrel
        rename World => W2
        obtain ⟨oa, oc, hpv⟩ := own_form U.out.2.1.pl.top
        subst hpv
        have HMB := Lib.hid hmb
        clear hmb
        by_cases hlt2 : i < n
        · have wi : IntKind.i64.wrap ((i : Int) + 1) = ((i + 1 : Nat) : Int) := by rw [IntWalk.i64_in _ (by omega)]; omega
          have li2 : (i : Int) < (n : Int) := by omega
          have w8 : IntKind.u8.wrap (i : Int) = (i : Int) := IntWalk.u8_in _ (by omega)
          by_cases hu0 : un = 0
          · have qu : ¬ (un : Int) > 0 := by omega
            have qud : decide ((0 : Int) < (un : Int)) = false := decide_eq_false (by omega)
            obtain ⟨cc, hcc⟩ : ∃ cc, cc = i := ⟨_, rfl⟩
            have hc8 : cc < 256 := by omega
            rw [← hcc] at w8
            have w8 : IntKind.u8.wrap (i : Int) = (cc : Int) := by rw [← hcc]; exact w8
            clear hcc hu0
            have MP := Lib.hid U.out.2.2.1
            have QQ := Lib.hid U.out.2.1
            have HBB := Lib.hid U.out.1
            have HLN := Lib.hid U.out.2.2.2
            clear U
            cases hh : has D (.int .u8 (cc : Int)) with
            | true =>
              obtain ⟨k, hkt, hkD⟩ := MP.out.all _ hh
              obtain ⟨tg, tc, hv, htb, htl⟩ := QQ.out.form (by omega)
              injection hv with hv1 hv2 hv3
              subst hv1; subst hv3
              have MQ := Lib.hid MP.out.more
              have LOOK := Lib.hid (And.intro MP.out.own hkD)
              clear MP hkD
              go_upto_region 39 with (at_lookup; refine wpList_lookup_own_ok_int _ rfl _ _ 40 rfl 5 3 .i64 u8law Tryd.underlying40 Tryd.underlying3 (u8zero _) mb i D rfl LOOK.out.1 _ (.int .u8 (cc : Int)) rfl (u8key cc hc8) ?_; intro cv hat hwc; rw [hh]; (have hcv : cv = (k : Int) := by (rw [LOOK.out.2] at hat; injection hat with hat; injection hat with _ hat; exact hat.symm)); subst hcv; clear hat hwc)
              have LS := Lib.hid HLN.out
              obtain ⟨qa, qc, hrk, hor⟩ := QQ.out.pl.row k hkt
              have p5 := QQ.out.cell hrk hkt
              have hlr : (ls.getD k []).length ≤ i := by
                have e : ls.getD k [] = ls[k] := by simp [List.getD, hkt]
                rw [e]
                exact LS.out _ (List.getElem_mem hkt)
              have lkt : (k : Int) < ((ls.length : Nat) : Int) := by omega
              have HRK := Lib.hid hrk
              obtain ⟨rl, hrl⟩ : ∃ rl, (ls.getD k []).length = rl := ⟨_, rfl⟩
              obtain ⟨on, hon⟩ : ∃ on, ls.length = on := ⟨_, rfl⟩
              have HRL := Lib.hid (And.intro hrl hon)
              rw [hrl] at p5 hlr
              have B6 : Hid (Below W2.heap.size W2 (W2.alloc (Obj.cells #[.int .i64 (i : Int)] 3))) := (Below.refl _ _).alloc (Nat.le_refl _) _
              have O6 : Hid ((W2.alloc (Obj.cells #[.int .i64 (i : Int)] 3)).ownsRow W1.heap.size 3 1 (.slice qa rl qc) rl ((ls.getD k []).map fun i => Value.int .i64 (i : Nat))) := by
                have h := own_on hor B6.out
                rw [hrl] at h
                exact h
              have A6 : Hid (∀ m u, [Value.int .i64 (i : Int)][m]? = some u → (W2.alloc (Obj.cells #[.int .i64 (i : Int)] 3)).cell? ((⟨W2.heap.size, 0, none⟩ : Addr).add m) = some u) := one_news (by simp [go_sem])
              have L6 : Hid (W1.heap.size ≤ (W2.alloc (Obj.cells #[.int .i64 (i : Int)] 3)).heap.size) := by
                show _ ≤ _
                have := B6.out.size
                have := HBB.out.size
                omega
              have T6 := Lib.hid (own_on QQ.out.pl.top B6.out)
              clear hor hrk hrl hon
              go_upto_region 40 with (at_builtin; refine wpList_append_lies _ rfl _ _ 22 rfl W1.heap.size 3 i0 (.int .i64 0) 1 8 Tryd.underlying22 HI.out.1 HI.out.2.1 HI.out.2.2.1 HI.out.2.2.2 rfl (by decide) _ _ _ rfl O6.out ⟨W2.heap.size, 0, none⟩ 1 1 [.int .i64 (i : Int)] rfl rfl A6.out (by intro u hu; simp at hu; subst hu; rfl) (by omega) (by unfold maxLen; omega) (by omega) L6.out _ rfl ?_; intro q7 cap7 w7 hown7 hgrow7 hat7 hqlt7; (have hA7 := grown_only (Below.refl _ _) hgrow7); (have T7 := own_only T6.out hA7 (own_apart O6.out T6.out (by decide))); (have p7 : w7.cell? ⟨tg, k, none⟩ = some (.slice qa rl qc) := (hA7.cell (p := ⟨tg, k, none⟩) (Nat.lt_of_lt_of_le htl B6.out.size) (own_apart O6.out T6.out (by decide) _ rfl)).trans ((B6.out.cell (p := ⟨tg, k, none⟩) htl).trans p5)); (have f7 := own_frozen T7 rfl k); (have O7 := Lib.hid hown7); (have G7 := Lib.hid hgrow7); (have H7 := Lib.hid hat7); (have A7 := Lib.hid hA7); clear hown7 hgrow7 hat7 hqlt7 hA7 T7)
              have Q8 := (QQ.out.on B6.out).grow (x := i) (g5 := q7) (c5 := cap7) hkt HRK.out (by rw [HRL.out.1]; exact O7.out) (by rw [HRL.out.1]; exact G7.out) (by rw [HRL.out.1]; exact H7.out)
              have M8 := (((MQ.out.on B6.out).only A7.out (fun hq => (MQ.out.on B6.out).ne O6.out hq rfl)).only (only_set w7 ⟨tg, k, none⟩ (.slice (some ⟨q7, 0, none⟩) (rl + 1) cap7)) (fun hq => (MQ.out.on B6.out).ne T6.out rfl hq))
              have HB8 : Below W1.heap.size W1 (w7.setCell ⟨tg, k, none⟩ (.slice (some ⟨q7, 0, none⟩) (rl + 1) cap7)) := (((below_on HBB.out B6.out).trans (A7.out.below (below_on HBB.out B6.out).size (fun c hc => (O6.out.lt c hc).1)))).setCell htb _
              have LS8 := mem_set_app (x := i) hkt LS.out
              rw [HRL.out.1] at Q8
              have hset : (ls.set k (ls.getD k [] ++ [i])).length = ls.length := List.length_set
              have TT : Hid (Below W1.heap.size W1 (w7.setCell ⟨tg, k, none⟩ (.slice (some ⟨q7, 0, none⟩) (rl + 1) cap7)) ∧ QL (w7.setCell ⟨tg, k, none⟩ (.slice (some ⟨q7, 0, none⟩) (rl + 1) cap7)) W1.heap.size (.slice (some ⟨tg, 0, none⟩) (ls.length) oc) (ls.set k (ls.getD k [] ++ [i])) (rows.set k (.slice (some ⟨q7, 0, none⟩) (rl + 1) cap7)) ∧ MpI (w7.setCell ⟨tg, k, none⟩ (.slice (some ⟨q7, 0, none⟩) (rl + 1) cap7)) mb (i + 1) (ls.set k (ls.getD k [] ++ [i])).length D ∧ ∀ l ∈ ls.set k (ls.getD k [] ++ [i]), l.length ≤ i + 1) := by
                exact ⟨HB8, Q8, by rw [hset]; exact M8, LS8⟩
              clear Q8 M8 HB8 LS8 O7 G7 H7 A7 p7 f7 B6 O6 A6 L6 T6 HLN
              go_wp2_with fail
              go_roundg (n - (i + 1))
              case measure => omega
              case rel => exact ⟨i + 1, _, _, _, rfl, rfl, by omega, by rw [hset]; have := HRL.out.2; omega, TT⟩
            | false =>
              obtain ⟨es, ck, hes⟩ := MP.out.entries
              have LOOK := Lib.hid MP.out.own
              have HES := Lib.hid hes
              have ik : (Lit.int .i64 ((ls.length : Nat) : Int)).wf = true := WalkArith.wf_i64 (by omega)
              obtain ⟨tn, htn⟩ : ∃ tn, ls.length = tn := ⟨_, rfl⟩
              have HTN := Lib.hid htn
              rw [htn] at ik hls
              rw [htn]
              clear hes htn
              go_upto_region 38 with (first
                | (at_lookup; refine wpList_lookup_own_ok_int _ rfl _ _ 40 rfl 5 3 .i64 u8law Tryd.underlying40 Tryd.underlying3 (u8zero _) mb i D rfl LOOK.out _ (.int .u8 (cc : Int)) rfl (u8key cc hc8) ?_; intro cv hat hwc; rw [hh]; clear hat hwc)
                | (at_mapUpdate; refine wpList_mapUpdate_own _ rfl _ _ _ 40 rfl 5 3 u8law Tryd.underlying40 (plainElem Tryd.prog 3) mb i D rfl LOOK.out (by unfold maxLen; omega) _ _ (.int .u8 (cc : Int)) rfl rfl (u8key cc hc8) (.lit (.int .i64 (tn : Int))) [] (plainElem_int Tryd.underlying3 ik) ?_; intro w3 hown3 hgrow3))
              have Q3 := Lib.hid (QQ.out.map HES.out hgrow3)
              have M3 := Lib.hid (MP.out.put (c := cc) (by rw [HTN.out]; exact hown3))
              have HB3 := Lib.hid (HBB.out.trans ((grown_only (Below.refl _ _) hgrow3).below HBB.out.size (fun c hc => by injection hc with hc; rw [← hc, HMB.out]; exact Nat.le_refl _)))
              clear hown3 hgrow3 HES LOOK MP QQ HBB
              have B5 : Hid (Below w3.heap.size w3 (w3.alloc (Obj.cells #[.slice none 0 0] 22))) := (Below.refl _ _).alloc (Nat.le_refl _) _
              have O5 : Hid ((w3.alloc (Obj.cells #[.slice none 0 0] 22)).ownsRow W1.heap.size 22 1 (.slice oa tn oc) tn rows) := by
                have h := own_on Q3.out.pl.top B5.out
                rw [HTN.out] at h
                exact h
              have A5 : Hid (∀ m u, [Value.slice none 0 0][m]? = some u → (w3.alloc (Obj.cells #[.slice none 0 0] 22)).cell? ((⟨w3.heap.size, 0, none⟩ : Addr).add m) = some u) := one_news (by simp [go_sem])
              have L5 : Hid (W1.heap.size ≤ (w3.alloc (Obj.cells #[.slice none 0 0] 22)).heap.size) := by
                show _ ≤ _
                have := B5.out.size
                have := HB3.out.size
                omega
              go_upto_region 39 with (at_builtin; refine wpList_append_lies _ rfl _ _ 23 rfl W1.heap.size 22 j0 (.slice none 0 0) 1 24 Tryd.underlying23 HJ.out.1 HJ.out.2.1 HJ.out.2.2.1 HJ.out.2.2.2 rfl (by decide) _ _ _ rfl O5.out ⟨w3.heap.size, 0, none⟩ 1 1 [.slice none 0 0] rfl rfl A5.out (by intro u hu; simp at hu; subst hu; rfl) (by omega) (by unfold maxLen; omega) (by omega) L5.out _ rfl ?_; intro tg tc w4 hown hgrow hat hqlt)
              have hA := grown_only (Below.refl _ _) hgrow
              have Q4 := (Q3.out.on B5.out).push (by rw [HTN.out]; exact hA) (by rw [HTN.out]; exact hown)
              have M4 := (M3.out.on B5.out).only hA (fun hq => (M3.out.on B5.out).ne O5.out hq rfl)
              have HB4 := Lib.hid ((below_on HB3.out B5.out).trans (hA.below (below_on HB3.out B5.out).size (fun c hc => (O5.out.lt c hc).1)))
              have htb : W1.heap.size ≤ tg := (own_blk hown rfl).1
              have htl : tg < w4.heap.size := (own_blk hown rfl).2.1
              have hlen1 : (ls ++ [([] : List Nat)]).length = tn + 1 := by rw [List.length_append, HTN.out]; rfl
              have LS : Hid (∀ l ∈ ls ++ [([] : List Nat)], l.length ≤ i) := fun l hl => by
                rcases List.mem_append.1 hl with h1 | h1
                · exact HLN.out l h1
                · simp at h1; subst h1; simp
              rw [HTN.out] at M4
              obtain ⟨D2, MQ⟩ : ∃ D2, Hid (MpI w4 mb (i + 1) (ls ++ [([] : List Nat)]).length D2) := ⟨_, by rw [hlen1]; exact M4⟩
              have QQ := Lib.hid (show QL w4 W1.heap.size (.slice (some ⟨tg, 0, none⟩) (ls ++ [([] : List Nat)]).length tc) (ls ++ [([] : List Nat)]) (rows ++ [Value.slice none 0 0]) from by rw [hlen1]; exact Q4)
              have HBB := HB4
              obtain ⟨k, hk2⟩ : ∃ k, k = tn := ⟨_, rfl⟩
              rw [← hk2]
              have hkt : k < (ls ++ [([] : List Nat)]).length := by omega
              have hls : (ls ++ [([] : List Nat)]).length ≤ i + 1 := by omega
              rw [← hk2] at hlen1
              clear hk2
              clear hown hgrow hat hqlt hA Q4 M4 B5 O5 A5 L5 Q3 M3 HB3 HB4
              generalize (ls ++ [([] : List Nat)]) = ls2 at *
              generalize (rows ++ [Value.slice none 0 0]) = rows2 at *
              obtain ⟨qa, qc, hrk, hor⟩ := QQ.out.pl.row k hkt
              have p5 := QQ.out.cell hrk hkt
              have hlr : (ls2.getD k []).length ≤ i := by
                have e : ls2.getD k [] = ls2[k] := by simp [List.getD, hkt]
                rw [e]
                exact LS.out _ (List.getElem_mem hkt)
              have lkt : (k : Int) < ((ls2.length : Nat) : Int) := by omega
              have HRK := Lib.hid hrk
              obtain ⟨rl, hrl⟩ : ∃ rl, (ls2.getD k []).length = rl := ⟨_, rfl⟩
              obtain ⟨on, hon⟩ : ∃ on, ls2.length = on := ⟨_, rfl⟩
              have HRL := Lib.hid (And.intro hrl hon)
              rw [hrl] at p5 hlr
              rw [hon] at hls hlen1 lkt
              subst hlen1
              have lkt2 : (k : Int) < (k : Int) + 1 := by omega
              have lkt3 : k < k + 1 := by omega
              have B6 : Hid (Below w4.heap.size w4 (w4.alloc (Obj.cells #[.int .i64 (i : Int)] 3))) := (Below.refl _ _).alloc (Nat.le_refl _) _
              have O6 : Hid ((w4.alloc (Obj.cells #[.int .i64 (i : Int)] 3)).ownsRow W1.heap.size 3 1 (.slice qa rl qc) rl ((ls2.getD k []).map fun i => Value.int .i64 (i : Nat))) := by
                have h := own_on hor B6.out
                rw [hrl] at h
                exact h
              have A6 : Hid (∀ m u, [Value.int .i64 (i : Int)][m]? = some u → (w4.alloc (Obj.cells #[.int .i64 (i : Int)] 3)).cell? ((⟨w4.heap.size, 0, none⟩ : Addr).add m) = some u) := one_news (by simp [go_sem])
              have L6 : Hid (W1.heap.size ≤ (w4.alloc (Obj.cells #[.int .i64 (i : Int)] 3)).heap.size) := by
                show _ ≤ _
                have := B6.out.size
                have := HBB.out.size
                omega
              have T6 := Lib.hid (own_on QQ.out.pl.top B6.out)
              clear hor hrk hrl hon
              go_upto_region 40 with (at_builtin; refine wpList_append_lies _ rfl _ _ 22 rfl W1.heap.size 3 i0 (.int .i64 0) 1 8 Tryd.underlying22 HI.out.1 HI.out.2.1 HI.out.2.2.1 HI.out.2.2.2 rfl (by decide) _ _ _ rfl O6.out ⟨w4.heap.size, 0, none⟩ 1 1 [.int .i64 (i : Int)] rfl rfl A6.out (by intro u hu; simp at hu; subst hu; rfl) (by omega) (by unfold maxLen; omega) (by omega) L6.out _ rfl ?_; intro q7 cap7 w7 hown7 hgrow7 hat7 hqlt7; (have hA7 := grown_only (Below.refl _ _) hgrow7); (have T7 := own_only T6.out hA7 (own_apart O6.out T6.out (by decide))); (have p7 : w7.cell? ⟨tg, k, none⟩ = some (.slice qa rl qc) := (hA7.cell (p := ⟨tg, k, none⟩) (Nat.lt_of_lt_of_le htl B6.out.size) (own_apart O6.out T6.out (by decide) _ rfl)).trans ((B6.out.cell (p := ⟨tg, k, none⟩) htl).trans p5)); (have f7 := own_frozen T7 rfl k); (have O7 := Lib.hid hown7); (have G7 := Lib.hid hgrow7); (have H7 := Lib.hid hat7); (have A7 := Lib.hid hA7); clear hown7 hgrow7 hat7 hqlt7 hA7 T7)
              have Q8 := (QQ.out.on B6.out).grow (x := i) (g5 := q7) (c5 := cap7) hkt HRK.out (by rw [HRL.out.1]; exact O7.out) (by rw [HRL.out.1]; exact G7.out) (by rw [HRL.out.1]; exact H7.out)
              have M8 := (((MQ.out.on B6.out).only A7.out (fun hq => (MQ.out.on B6.out).ne O6.out hq rfl)).only (only_set w7 ⟨tg, k, none⟩ (.slice (some ⟨q7, 0, none⟩) (rl + 1) cap7)) (fun hq => (MQ.out.on B6.out).ne T6.out rfl hq))
              have HB8 : Below W1.heap.size W1 (w7.setCell ⟨tg, k, none⟩ (.slice (some ⟨q7, 0, none⟩) (rl + 1) cap7)) := (((below_on HBB.out B6.out).trans (A7.out.below (below_on HBB.out B6.out).size (fun c hc => (O6.out.lt c hc).1)))).setCell htb _
              have LS8 := mem_set_app (x := i) hkt LS.out
              rw [HRL.out.1] at Q8
              have hset : (ls2.set k (ls2.getD k [] ++ [i])).length = ls2.length := List.length_set
              have TT : Hid (Below W1.heap.size W1 (w7.setCell ⟨tg, k, none⟩ (.slice (some ⟨q7, 0, none⟩) (rl + 1) cap7)) ∧ QL (w7.setCell ⟨tg, k, none⟩ (.slice (some ⟨q7, 0, none⟩) (rl + 1) cap7)) W1.heap.size (.slice (some ⟨tg, 0, none⟩) (k + 1) tc) (ls2.set k (ls2.getD k [] ++ [i])) (rows2.set k (.slice (some ⟨q7, 0, none⟩) (rl + 1) cap7)) ∧ MpI (w7.setCell ⟨tg, k, none⟩ (.slice (some ⟨q7, 0, none⟩) (rl + 1) cap7)) mb (i + 1) (ls2.set k (ls2.getD k [] ++ [i])).length D2 ∧ ∀ l ∈ ls2.set k (ls2.getD k [] ++ [i]), l.length ≤ i + 1) := by
                rw [HRL.out.2] at Q8
                exact ⟨HB8, Q8, by rw [hset]; exact M8, LS8⟩
              clear Q8 M8 HB8 LS8 O7 G7 H7 A7 p7 f7 B6 O6 A6 L6 T6 HLN
              go_wp2_with fail
              go_roundg (n - (i + 1))
              case measure => omega
              case rel => exact ⟨i + 1, _, _, _, rfl, rfl, by omega, by rw [hset]; have := HRL.out.2; omega, TT⟩
          · have qu : (un : Int) > 0 := by omega
            have qud : decide ((0 : Int) < (un : Int)) = true := decide_eq_true (by omega)
            have qn : (un : Int) ≠ 0 := by omega
            obtain ⟨ug, uo, rfl, hug, huc⟩ := HU.out (by omega)
            have hrl := Nat.mod_lt i (show un > 0 by omega)
            obtain ⟨rr, hrr⟩ : ∃ rr, rr = i % un := ⟨_, rfl⟩
            rw [← hrr] at hrl
            have ta : (i : Int).tmod (un : Int) = (rr : Int) := by rw [Int.tmod_eq_emod_of_nonneg (by omega)]; omega
            have ta2 : (i : Int) % (un : Int) = (rr : Int) := by omega
            have ta3 : IntKind.i64.wrap (rr : Int) = (rr : Int) := IntWalk.i64_in _ (by omega)
            obtain ⟨hub, hucell⟩ := huc rr hrl
            have pu := ((below_on HW1.out U.out.1).cell (p := ⟨ug, uo + rr, none⟩) hug).trans hucell
            have lru : (rr : Int) < (un : Int) := by omega
            obtain ⟨uv, huv⟩ : ∃ uv, uf rr = uv := ⟨_, rfl⟩
            rw [huv] at pu hub
            obtain ⟨cc, hcc⟩ : ∃ cc, cc = uv % 8 := ⟨_, rfl⟩
            have tb : (uv : Int).tmod 8 = (cc : Int) := by rw [Int.tmod_eq_emod_of_nonneg (by omega)]; omega
            have tb2 : (uv : Int) % 8 = (cc : Int) := by omega
            have tb3 : IntKind.u8.wrap (cc : Int) = (cc : Int) := IntWalk.u8_in _ (by omega)
            have hc8 : cc < 256 := by omega
            clear hcc huv hrr huc hucell
            have MP := Lib.hid U.out.2.2.1
            have QQ := Lib.hid U.out.2.1
            have HBB := Lib.hid U.out.1
            have HLN := Lib.hid U.out.2.2.2
            clear U
            cases hh : has D (.int .u8 (cc : Int)) with
            | true =>
              obtain ⟨k, hkt, hkD⟩ := MP.out.all _ hh
              obtain ⟨tg, tc, hv, htb, htl⟩ := QQ.out.form (by omega)
              injection hv with hv1 hv2 hv3
              subst hv1; subst hv3
              have MQ := Lib.hid MP.out.more
              have LOOK := Lib.hid (And.intro MP.out.own hkD)
              clear MP hkD
              go_upto_region 39 with (at_lookup; refine wpList_lookup_own_ok_int _ rfl _ _ 40 rfl 5 3 .i64 u8law Tryd.underlying40 Tryd.underlying3 (u8zero _) mb i D rfl LOOK.out.1 _ (.int .u8 (cc : Int)) rfl (u8key cc hc8) ?_; intro cv hat hwc; rw [hh]; (have hcv : cv = (k : Int) := by (rw [LOOK.out.2] at hat; injection hat with hat; injection hat with _ hat; exact hat.symm)); subst hcv; clear hat hwc)
              have LS := Lib.hid HLN.out
              obtain ⟨qa, qc, hrk, hor⟩ := QQ.out.pl.row k hkt
              have p5 := QQ.out.cell hrk hkt
              have hlr : (ls.getD k []).length ≤ i := by
                have e : ls.getD k [] = ls[k] := by simp [List.getD, hkt]
                rw [e]
                exact LS.out _ (List.getElem_mem hkt)
              have lkt : (k : Int) < ((ls.length : Nat) : Int) := by omega
              have HRK := Lib.hid hrk
              obtain ⟨rl, hrl⟩ : ∃ rl, (ls.getD k []).length = rl := ⟨_, rfl⟩
              obtain ⟨on, hon⟩ : ∃ on, ls.length = on := ⟨_, rfl⟩
              have HRL := Lib.hid (And.intro hrl hon)
              rw [hrl] at p5 hlr
              have B6 : Hid (Below W2.heap.size W2 (W2.alloc (Obj.cells #[.int .i64 (i : Int)] 3))) := (Below.refl _ _).alloc (Nat.le_refl _) _
              have O6 : Hid ((W2.alloc (Obj.cells #[.int .i64 (i : Int)] 3)).ownsRow W1.heap.size 3 1 (.slice qa rl qc) rl ((ls.getD k []).map fun i => Value.int .i64 (i : Nat))) := by
                have h := own_on hor B6.out
                rw [hrl] at h
                exact h
              have A6 : Hid (∀ m u, [Value.int .i64 (i : Int)][m]? = some u → (W2.alloc (Obj.cells #[.int .i64 (i : Int)] 3)).cell? ((⟨W2.heap.size, 0, none⟩ : Addr).add m) = some u) := one_news (by simp [go_sem])
              have L6 : Hid (W1.heap.size ≤ (W2.alloc (Obj.cells #[.int .i64 (i : Int)] 3)).heap.size) := by
                show _ ≤ _
                have := B6.out.size
                have := HBB.out.size
                omega
              have T6 := Lib.hid (own_on QQ.out.pl.top B6.out)
              clear hor hrk hrl hon
              go_upto_region 40 with (at_builtin; refine wpList_append_lies _ rfl _ _ 22 rfl W1.heap.size 3 i0 (.int .i64 0) 1 8 Tryd.underlying22 HI.out.1 HI.out.2.1 HI.out.2.2.1 HI.out.2.2.2 rfl (by decide) _ _ _ rfl O6.out ⟨W2.heap.size, 0, none⟩ 1 1 [.int .i64 (i : Int)] rfl rfl A6.out (by intro u hu; simp at hu; subst hu; rfl) (by omega) (by unfold maxLen; omega) (by omega) L6.out _ rfl ?_; intro q7 cap7 w7 hown7 hgrow7 hat7 hqlt7; (have hA7 := grown_only (Below.refl _ _) hgrow7); (have T7 := own_only T6.out hA7 (own_apart O6.out T6.out (by decide))); (have p7 : w7.cell? ⟨tg, k, none⟩ = some (.slice qa rl qc) := (hA7.cell (p := ⟨tg, k, none⟩) (Nat.lt_of_lt_of_le htl B6.out.size) (own_apart O6.out T6.out (by decide) _ rfl)).trans ((B6.out.cell (p := ⟨tg, k, none⟩) htl).trans p5)); (have f7 := own_frozen T7 rfl k); (have O7 := Lib.hid hown7); (have G7 := Lib.hid hgrow7); (have H7 := Lib.hid hat7); (have A7 := Lib.hid hA7); clear hown7 hgrow7 hat7 hqlt7 hA7 T7)
              have Q8 := (QQ.out.on B6.out).grow (x := i) (g5 := q7) (c5 := cap7) hkt HRK.out (by rw [HRL.out.1]; exact O7.out) (by rw [HRL.out.1]; exact G7.out) (by rw [HRL.out.1]; exact H7.out)
              have M8 := (((MQ.out.on B6.out).only A7.out (fun hq => (MQ.out.on B6.out).ne O6.out hq rfl)).only (only_set w7 ⟨tg, k, none⟩ (.slice (some ⟨q7, 0, none⟩) (rl + 1) cap7)) (fun hq => (MQ.out.on B6.out).ne T6.out rfl hq))
              have HB8 : Below W1.heap.size W1 (w7.setCell ⟨tg, k, none⟩ (.slice (some ⟨q7, 0, none⟩) (rl + 1) cap7)) := (((below_on HBB.out B6.out).trans (A7.out.below (below_on HBB.out B6.out).size (fun c hc => (O6.out.lt c hc).1)))).setCell htb _
              have LS8 := mem_set_app (x := i) hkt LS.out
              rw [HRL.out.1] at Q8
              have hset : (ls.set k (ls.getD k [] ++ [i])).length = ls.length := List.length_set
              have TT : Hid (Below W1.heap.size W1 (w7.setCell ⟨tg, k, none⟩ (.slice (some ⟨q7, 0, none⟩) (rl + 1) cap7)) ∧ QL (w7.setCell ⟨tg, k, none⟩ (.slice (some ⟨q7, 0, none⟩) (rl + 1) cap7)) W1.heap.size (.slice (some ⟨tg, 0, none⟩) (ls.length) oc) (ls.set k (ls.getD k [] ++ [i])) (rows.set k (.slice (some ⟨q7, 0, none⟩) (rl + 1) cap7)) ∧ MpI (w7.setCell ⟨tg, k, none⟩ (.slice (some ⟨q7, 0, none⟩) (rl + 1) cap7)) mb (i + 1) (ls.set k (ls.getD k [] ++ [i])).length D ∧ ∀ l ∈ ls.set k (ls.getD k [] ++ [i]), l.length ≤ i + 1) := by
                exact ⟨HB8, Q8, by rw [hset]; exact M8, LS8⟩
              clear Q8 M8 HB8 LS8 O7 G7 H7 A7 p7 f7 B6 O6 A6 L6 T6 HLN
              go_wp2_with fail
              go_roundg (n - (i + 1))
              case measure => omega
              case rel => exact ⟨i + 1, _, _, _, rfl, rfl, by omega, by rw [hset]; have := HRL.out.2; omega, TT⟩
            | false =>
              obtain ⟨es, ck, hes⟩ := MP.out.entries
              have LOOK := Lib.hid MP.out.own
              have HES := Lib.hid hes
              have ik : (Lit.int .i64 ((ls.length : Nat) : Int)).wf = true := WalkArith.wf_i64 (by omega)
              obtain ⟨tn, htn⟩ : ∃ tn, ls.length = tn := ⟨_, rfl⟩
              have HTN := Lib.hid htn
              rw [htn] at ik hls
              rw [htn]
              clear hes htn
              go_upto_region 38 with (first
                | (at_lookup; refine wpList_lookup_own_ok_int _ rfl _ _ 40 rfl 5 3 .i64 u8law Tryd.underlying40 Tryd.underlying3 (u8zero _) mb i D rfl LOOK.out _ (.int .u8 (cc : Int)) rfl (u8key cc hc8) ?_; intro cv hat hwc; rw [hh]; clear hat hwc)
                | (at_mapUpdate; refine wpList_mapUpdate_own _ rfl _ _ _ 40 rfl 5 3 u8law Tryd.underlying40 (plainElem Tryd.prog 3) mb i D rfl LOOK.out (by unfold maxLen; omega) _ _ (.int .u8 (cc : Int)) rfl rfl (u8key cc hc8) (.lit (.int .i64 (tn : Int))) [] (plainElem_int Tryd.underlying3 ik) ?_; intro w3 hown3 hgrow3))
              have Q3 := Lib.hid (QQ.out.map HES.out hgrow3)
              have M3 := Lib.hid (MP.out.put (c := cc) (by rw [HTN.out]; exact hown3))
              have HB3 := Lib.hid (HBB.out.trans ((grown_only (Below.refl _ _) hgrow3).below HBB.out.size (fun c hc => by injection hc with hc; rw [← hc, HMB.out]; exact Nat.le_refl _)))
              clear hown3 hgrow3 HES LOOK MP QQ HBB
              have B5 : Hid (Below w3.heap.size w3 (w3.alloc (Obj.cells #[.slice none 0 0] 22))) := (Below.refl _ _).alloc (Nat.le_refl _) _
              have O5 : Hid ((w3.alloc (Obj.cells #[.slice none 0 0] 22)).ownsRow W1.heap.size 22 1 (.slice oa tn oc) tn rows) := by
                have h := own_on Q3.out.pl.top B5.out
                rw [HTN.out] at h
                exact h
              have A5 : Hid (∀ m u, [Value.slice none 0 0][m]? = some u → (w3.alloc (Obj.cells #[.slice none 0 0] 22)).cell? ((⟨w3.heap.size, 0, none⟩ : Addr).add m) = some u) := one_news (by simp [go_sem])
              have L5 : Hid (W1.heap.size ≤ (w3.alloc (Obj.cells #[.slice none 0 0] 22)).heap.size) := by
                show _ ≤ _
                have := B5.out.size
                have := HB3.out.size
                omega
              go_upto_region 39 with (at_builtin; refine wpList_append_lies _ rfl _ _ 23 rfl W1.heap.size 22 j0 (.slice none 0 0) 1 24 Tryd.underlying23 HJ.out.1 HJ.out.2.1 HJ.out.2.2.1 HJ.out.2.2.2 rfl (by decide) _ _ _ rfl O5.out ⟨w3.heap.size, 0, none⟩ 1 1 [.slice none 0 0] rfl rfl A5.out (by intro u hu; simp at hu; subst hu; rfl) (by omega) (by unfold maxLen; omega) (by omega) L5.out _ rfl ?_; intro tg tc w4 hown hgrow hat hqlt)
              have hA := grown_only (Below.refl _ _) hgrow
              have Q4 := (Q3.out.on B5.out).push (by rw [HTN.out]; exact hA) (by rw [HTN.out]; exact hown)
              have M4 := (M3.out.on B5.out).only hA (fun hq => (M3.out.on B5.out).ne O5.out hq rfl)
              have HB4 := Lib.hid ((below_on HB3.out B5.out).trans (hA.below (below_on HB3.out B5.out).size (fun c hc => (O5.out.lt c hc).1)))
              have htb : W1.heap.size ≤ tg := (own_blk hown rfl).1
              have htl : tg < w4.heap.size := (own_blk hown rfl).2.1
              have hlen1 : (ls ++ [([] : List Nat)]).length = tn + 1 := by rw [List.length_append, HTN.out]; rfl
              have LS : Hid (∀ l ∈ ls ++ [([] : List Nat)], l.length ≤ i) := fun l hl => by
                rcases List.mem_append.1 hl with h1 | h1
                · exact HLN.out l h1
                · simp at h1; subst h1; simp
              rw [HTN.out] at M4
              obtain ⟨D2, MQ⟩ : ∃ D2, Hid (MpI w4 mb (i + 1) (ls ++ [([] : List Nat)]).length D2) := ⟨_, by rw [hlen1]; exact M4⟩
              have QQ := Lib.hid (show QL w4 W1.heap.size (.slice (some ⟨tg, 0, none⟩) (ls ++ [([] : List Nat)]).length tc) (ls ++ [([] : List Nat)]) (rows ++ [Value.slice none 0 0]) from by rw [hlen1]; exact Q4)
              have HBB := HB4
              obtain ⟨k, hk2⟩ : ∃ k, k = tn := ⟨_, rfl⟩
              rw [← hk2]
              have hkt : k < (ls ++ [([] : List Nat)]).length := by omega
              have hls : (ls ++ [([] : List Nat)]).length ≤ i + 1 := by omega
              rw [← hk2] at hlen1
              clear hk2
              clear hown hgrow hat hqlt hA Q4 M4 B5 O5 A5 L5 Q3 M3 HB3 HB4
              generalize (ls ++ [([] : List Nat)]) = ls2 at *
              generalize (rows ++ [Value.slice none 0 0]) = rows2 at *
              obtain ⟨qa, qc, hrk, hor⟩ := QQ.out.pl.row k hkt
              have p5 := QQ.out.cell hrk hkt
              have hlr : (ls2.getD k []).length ≤ i := by
                have e : ls2.getD k [] = ls2[k] := by simp [List.getD, hkt]
                rw [e]
                exact LS.out _ (List.getElem_mem hkt)
              have lkt : (k : Int) < ((ls2.length : Nat) : Int) := by omega
              have HRK := Lib.hid hrk
              obtain ⟨rl, hrl⟩ : ∃ rl, (ls2.getD k []).length = rl := ⟨_, rfl⟩
              obtain ⟨on, hon⟩ : ∃ on, ls2.length = on := ⟨_, rfl⟩
              have HRL := Lib.hid (And.intro hrl hon)
              rw [hrl] at p5 hlr
              rw [hon] at hls hlen1 lkt
              subst hlen1
              have lkt2 : (k : Int) < (k : Int) + 1 := by omega
              have lkt3 : k < k + 1 := by omega
              have B6 : Hid (Below w4.heap.size w4 (w4.alloc (Obj.cells #[.int .i64 (i : Int)] 3))) := (Below.refl _ _).alloc (Nat.le_refl _) _
              have O6 : Hid ((w4.alloc (Obj.cells #[.int .i64 (i : Int)] 3)).ownsRow W1.heap.size 3 1 (.slice qa rl qc) rl ((ls2.getD k []).map fun i => Value.int .i64 (i : Nat))) := by
                have h := own_on hor B6.out
                rw [hrl] at h
                exact h
              have A6 : Hid (∀ m u, [Value.int .i64 (i : Int)][m]? = some u → (w4.alloc (Obj.cells #[.int .i64 (i : Int)] 3)).cell? ((⟨w4.heap.size, 0, none⟩ : Addr).add m) = some u) := one_news (by simp [go_sem])
              have L6 : Hid (W1.heap.size ≤ (w4.alloc (Obj.cells #[.int .i64 (i : Int)] 3)).heap.size) := by
                show _ ≤ _
                have := B6.out.size
                have := HBB.out.size
                omega
              have T6 := Lib.hid (own_on QQ.out.pl.top B6.out)
              clear hor hrk hrl hon
              go_upto_region 40 with (at_builtin; refine wpList_append_lies _ rfl _ _ 22 rfl W1.heap.size 3 i0 (.int .i64 0) 1 8 Tryd.underlying22 HI.out.1 HI.out.2.1 HI.out.2.2.1 HI.out.2.2.2 rfl (by decide) _ _ _ rfl O6.out ⟨w4.heap.size, 0, none⟩ 1 1 [.int .i64 (i : Int)] rfl rfl A6.out (by intro u hu; simp at hu; subst hu; rfl) (by omega) (by unfold maxLen; omega) (by omega) L6.out _ rfl ?_; intro q7 cap7 w7 hown7 hgrow7 hat7 hqlt7; (have hA7 := grown_only (Below.refl _ _) hgrow7); (have T7 := own_only T6.out hA7 (own_apart O6.out T6.out (by decide))); (have p7 : w7.cell? ⟨tg, k, none⟩ = some (.slice qa rl qc) := (hA7.cell (p := ⟨tg, k, none⟩) (Nat.lt_of_lt_of_le htl B6.out.size) (own_apart O6.out T6.out (by decide) _ rfl)).trans ((B6.out.cell (p := ⟨tg, k, none⟩) htl).trans p5)); (have f7 := own_frozen T7 rfl k); (have O7 := Lib.hid hown7); (have G7 := Lib.hid hgrow7); (have H7 := Lib.hid hat7); (have A7 := Lib.hid hA7); clear hown7 hgrow7 hat7 hqlt7 hA7 T7)
              have Q8 := (QQ.out.on B6.out).grow (x := i) (g5 := q7) (c5 := cap7) hkt HRK.out (by rw [HRL.out.1]; exact O7.out) (by rw [HRL.out.1]; exact G7.out) (by rw [HRL.out.1]; exact H7.out)
              have M8 := (((MQ.out.on B6.out).only A7.out (fun hq => (MQ.out.on B6.out).ne O6.out hq rfl)).only (only_set w7 ⟨tg, k, none⟩ (.slice (some ⟨q7, 0, none⟩) (rl + 1) cap7)) (fun hq => (MQ.out.on B6.out).ne T6.out rfl hq))
              have HB8 : Below W1.heap.size W1 (w7.setCell ⟨tg, k, none⟩ (.slice (some ⟨q7, 0, none⟩) (rl + 1) cap7)) := (((below_on HBB.out B6.out).trans (A7.out.below (below_on HBB.out B6.out).size (fun c hc => (O6.out.lt c hc).1)))).setCell htb _
              have LS8 := mem_set_app (x := i) hkt LS.out
              rw [HRL.out.1] at Q8
              have hset : (ls2.set k (ls2.getD k [] ++ [i])).length = ls2.length := List.length_set
              have TT : Hid (Below W1.heap.size W1 (w7.setCell ⟨tg, k, none⟩ (.slice (some ⟨q7, 0, none⟩) (rl + 1) cap7)) ∧ QL (w7.setCell ⟨tg, k, none⟩ (.slice (some ⟨q7, 0, none⟩) (rl + 1) cap7)) W1.heap.size (.slice (some ⟨tg, 0, none⟩) (k + 1) tc) (ls2.set k (ls2.getD k [] ++ [i])) (rows2.set k (.slice (some ⟨q7, 0, none⟩) (rl + 1) cap7)) ∧ MpI (w7.setCell ⟨tg, k, none⟩ (.slice (some ⟨q7, 0, none⟩) (rl + 1) cap7)) mb (i + 1) (ls2.set k (ls2.getD k [] ++ [i])).length D2 ∧ ∀ l ∈ ls2.set k (ls2.getD k [] ++ [i]), l.length ≤ i + 1) := by
                rw [HRL.out.2] at Q8
                exact ⟨HB8, Q8, by rw [hset]; exact M8, LS8⟩
              clear Q8 M8 HB8 LS8 O7 G7 H7 A7 p7 f7 B6 O6 A6 L6 T6 HLN
              go_wp2_with fail
              go_roundg (n - (i + 1))
              case measure => omega
              case rel => exact ⟨i + 1, _, _, _, rfl, rfl, by omega, by rw [hset]; have := HRL.out.2; omega, TT⟩
        · have li2 : ¬ (i : Int) < (n : Int) := by omega
          have e : i = n := by omega
          have HB2 := Lib.hid (below_on HW1.out U.out.1)
          have K7 := K6 W2 oa oc ls HB2.out U.out.2.1.pl.ll (by omega) (fun l hl => by have := U.out.2.2.2 l hl; omega)
          clear U
          generalize ls.length = ol at *
          go_upto_region 42 with (go_at_call 10; (with_reducible refine ((K7.out).mono ?_)); rintro e w9 ⟨hb9, bb, rfl, hbb⟩; have HB9 := Lib.hid (below_on HB2.out hb9))
          cases bb with
          | true =>
            have hle : (ol : Int) ≤ (m : Int) := by have := hbb rfl; omega
            have hle2 : decide ((ol : Int) ≤ (m : Int)) = true := decide_eq_true hle
            clear hbb
            go_wp2_with fail
            go_ret
            exact ⟨by (first | rfl | simp), HB9.out⟩
          | false =>
            clear hbb
            go_wp2_with fail
            go_ret
            exact ⟨by (first | rfl | simp), HB9.out⟩
theorem most_at (ra : Option Addr) (n c : Nat) (f : Nat → Int) (ua : Option Addr) (un uc : Nat) (uf : Nat → Nat) (w : World) (hd : DB w) (hr : IRow w ra n f) (hn : n ≤ 9223372036854775807) (hu : URow w ua un uf) (hun : un ≤ 9223372036854775807) :
    Calls Tryd.prog 4 #[.slice ra n c, .slice ua un uc] w fun e w' => e = .returned (.bool true) ∧ Below w.heap.size w w' :=
  lawMost_any ra n c f ua un uc uf w hr hd hn hu hun
end Go.Proofs.YtjonhhmapbibaaaDoor
