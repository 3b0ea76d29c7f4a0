/- Layer 4: the reference's Null. Layer 4: lists of null vectors compared; what two solutions have in common. Layer 4: LinearSolves returns true. -/
import Derived.Test.YtjggnmbdgagkoaaLRSol
namespace Go.Proofs.Ytjggnmbdgagkoaa
set_option linter.unusedVariables false
open Go.RowKit Go.Shelf

/-- How many pivots lie before the column c. -/
def NxS (k : Nat) (p : Nat → Nat) (c x : Nat) : Prop := x ≤ k ∧ (∀ l, l < x → p l < c) ∧ ∀ l, x ≤ l → l < k → c ≤ p l
theorem NxS.of_true {k c x : Nat} {p : Nat → Nat} (h : NxS k p c x) (up : ∀ l l', l < l' → l' < k → p l < p l') (e : decide (∃ l, l < k ∧ p l = c) = true) : (x < k ∧ p x = c) ∧ NxS k p (c + 1) (x + 1) := by
  obtain ⟨l, hl, hp⟩ := of_decide_eq_true e
  have hx : x ≤ l := by
    rcases Nat.lt_or_ge l x with g | g
    · have := h.2.1 l g; omega
    · exact g
  have hxe : x = l := by
    rcases Nat.lt_or_ge x l with g | g
    · have := up x l g hl; have := h.2.2 x (Nat.le_refl _) (by omega); omega
    · omega
  subst hxe
  refine ⟨⟨hl, hp⟩, by omega, fun m hm => ?_, fun m h1 h2 => ?_⟩
  · by_cases q : m = x
    · rw [q]; omega
    · have := h.2.1 m (by omega); omega
  · have := up x m (by omega) h2; omega
theorem NxS.of_false {k c x : Nat} {p : Nat → Nat} (h : NxS k p c x) (e : decide (∃ l, l < k ∧ p l = c) = false) : NxS k p (c + 1) x := by
  have hn := of_decide_eq_false e
  refine ⟨h.1, fun m hm => by have := h.2.1 m hm; omega, fun m h1 h2 => ?_⟩
  have := h.2.2 m h1 h2
  have : p m ≠ c := fun q => hn ⟨m, h2, q⟩
  omega
theorem upd_comm (F : Nat → Int × Int) {i q : Nat} (u v : Int × Int) (h : q ≠ i) : updF (updF F i u) q v = updF (updF F q v) i u := by
  funext l
  unfold updF
  by_cases e1 : l = q
  · rw [if_pos e1, if_neg (by omega), if_pos e1]
  · rw [if_neg e1]
    by_cases e2 : l = i
    · rw [if_pos e2, if_pos e2]
    · rw [if_neg e2, if_neg e2, if_neg e1]

structure RNuR (fb b R Cb gi ci n i c : Nat) (va nv D xn xd xe : Int) (Wc : World) (L : Nat → Bool) (v : Nat → Value) (g : Nat → Nat) (W : World) : Prop where
  st : Below Wc.heap.size Wc W
  f0 : Had L 0 (v 64 = .pointer (some ⟨fb, 0, none⟩))
  f1 : Had L 1 (v 65 = .slice (some ⟨b, 0, none⟩) R Cb)
  f2 : Had L 2 (v 66 = .int .i64 (i : Int))
  f3 : Had L 3 (v 67 = .pointer (some ⟨b, i, none⟩))
  f4 : Had L 4 (v 68 = .slice (some ⟨gi, 0, none⟩) n ci)
  f5 : Had L 5 (v 69 = .int .i64 (c : Int))
  f6 : Had L 6 (v 70 = .pointer (some ⟨gi, c, none⟩))
  f7 : Had L 7 (v 71 = .int .i64 va)
  f8 : Had L 8 (v 72 = .int .i64 nv)
  f9 : Had L 9 (v 73 = .pointer (some ⟨fb, 2, none⟩))
  f10 : Had L 10 (v 74 = .int .i64 D)
  f11 : Had L 11 (v 75 = .tuple #[.agg #[.int .i64 xn, .int .i64 xd], .int .i64 xe])
  f12 : Had L 12 (v 63 = .tuple #[.agg #[.int .i64 xn, .int .i64 xd], .int .i64 xe])
  f13 : Had L 13 (v 76 = .agg #[.int .i64 xn, .int .i64 xd])
  f14 : Had L 14 (v 77 = .int .i64 xe)
  f15 : Had L 15 (v 11 = .pointer (some ⟨g 15, 0, none⟩))
  f17 : Had L 17 (v 12 = .int .i64 xe)
  b15 : Had L 15 (Own Wc.heap.size W (g 15))
  c16 : Had L 16 (L 15 = true ∧ Blk W (g 15) (.int .i64 xn) (.int .i64 xd))

structure RNwR (xb n fb k pg pc i pj tb : Nat) (xn xd : Int) (Wc : World) (L : Nat → Bool) (v : Nat → Value) (W : World) : Prop where
  st : L 8 = false → Below Wc.heap.size Wc W
  s1 : Had L 8 (∃ W2, Below Wc.heap.size Wc W2 ∧ W = (W2.setCell ⟨xb, pj * 2, none⟩ (.int .i64 xn)).setCell ⟨xb, pj * 2 + 1, none⟩ (.int .i64 xd))
  w2 : Had L 2 (∀ j ∈ [1], L j = true)
  w4 : Had L 4 (∀ j ∈ [2, 3], L j = true)
  w5 : Had L 5 (∀ j ∈ [4], L j = true)
  w7 : Had L 7 (∀ j ∈ [0, 5], L j = true)
  w8 : Had L 8 (∀ j ∈ [0, 1, 2, 3, 4, 5, 6, 7], L j = true)
  f0 : Had L 0 (v 78 = .slice (some ⟨xb, 0, none⟩) (n) (n))
  f1 : Had L 1 (v 79 = .pointer (some ⟨fb, 1, none⟩))
  f2 : Had L 2 (v 80 = .slice (some ⟨pg, 0, none⟩) (k) (pc))
  f3 : Had L 3 (v 81 = .int .i64 (i : Int))
  f4 : Had L 4 (v 82 = .pointer (some ⟨pg, i, none⟩))
  f5 : Had L 5 (v 83 = .int .i64 (pj : Int))
  f6 : Had L 6 (v 84 = .agg #[.int .i64 xn, .int .i64 xd])
  f7 : Had L 7 (v 85 = .pointer (some ⟨xb, pj * 2, none⟩))

set_option maxRecDepth 100000 in
set_option maxHeartbeats 32000000 in
theorem refNull_any (mb mo mc R n : Nat) (Ga Oa Ka : Nat → Nat) (Z : Nat → Nat → Int) (w : World) (hM : Mat w mb mo R n Ga Oa Ka Z) (hR0 : 0 < R) (hR6 : R ≤ 6) (hn0 : 0 < n) (hn12 : n ≤ 12) (hZ : ∀ i j, i < R → j < n → -32 ≤ Z i j ∧ Z i j ≤ 32) :
    Calls Try.prog 24 #[.slice (some ⟨mb, mo, none⟩) R mc] w fun e w' => Below w.heap.size w w' ∧ ∃ k p E D V vv, FinW R n Z k p E D ∧ ((-1152921504606846976 ≤ D ∧ D ≤ 1152921504606846976) ∧ ∀ i j, i < R → j < n → -1152921504606846976 ≤ E i j ∧ E i j ≤ 1152921504606846976) ∧ e = .returned vv ∧ NSt w.heap.size w' n k p E D n V vv := by
  have hsm : ∀ i j, i < R → j < n → - cB n j ≤ Z i j ∧ Z i j ≤ cB n j := fun i j hi hj => by
    unfold cB
    rw [if_neg (by omega)]; exact hZ i j hi hj
  have CE := Lib.hid (refElim_any mb mo mc R n n n Ga Oa Ka Z w hM hR0 (by omega) (by omega) (by omega) (by omega) (.inl hR6) hsm)
  have p0 := hM.top 0 hR0
  rw [Nat.add_zero] at p0
  clear hM hZ hsm
  obtain ⟨i0, hi0, hz0, hz1, hz2⟩ := info_parts (show (Try.prog.info? 45).map (fun i => (i.zero, i.size, i.bytes)) = some (some (Value.agg #[Value.int IntKind.i64 0, Value.int IntKind.i64 0]), 2, 16) by kernel_rfl)
  obtain ⟨i2, hi2, hy0, hy1, hy2⟩ := info_parts (show (Try.prog.info? 35).map (fun i => (i.zero, i.size, i.bytes)) = some (some (Value.slice none 0 0), 1, 24) by kernel_rfl)
  go_enter Try.func24, Try.ntmps24
  go_wp2_with fail
  clear p0
  (with_reducible refine ((CE.out).mono ?_))
  rintro e w2 ⟨hb2, b, Cb, G, C, U, E, pv, k, p, D, od, rfl, hCb, hG, hO, hI⟩
  obtain ⟨pa, pc, hpv⟩ := own_form hO
  subst hpv
  have kR := hI.kR
  have HI := Lib.hid hI
  have hb3 : Below w2.heap.size w2 (w2.alloc (Obj.cells #[Value.slice (some ⟨b, 0, none⟩) R Cb, Value.slice pa k pc, Value.int .i64 D, Value.bool od] 72)) := (Below.refl _ _).alloc (Nat.le_refl _) _
  have HE : EBlk (w2.alloc (Obj.cells #[Value.slice (some ⟨b, 0, none⟩) R Cb, Value.slice pa k pc, Value.int .i64 D, Value.bool od] 72)) w2.heap.size (.slice (some ⟨b, 0, none⟩) R Cb) (.slice pa k pc) (.int .i64 D) := ⟨by simp, by simp [go_sem], by simp [go_sem], by simp [go_sem], by simp [go_sem], by simp [go_sem], by simp [go_sem]⟩
  have HB2 := Lib.hid (below_on hb2 hb3)
  have HD0 : DSt w.heap.size _ _ b R n Cb G C E (.slice pa k pc) k p D := ⟨HE, hG.on hb3, own_only hO (Only.of_below (S := fun _ => False) hb3) (fun _ _ q => q)⟩
  go_upto_region 3 with fail
  obtain ⟨fb, hfb⟩ : ∃ x, x = w2.heap.size := ⟨_, rfl⟩
  rw [← hfb] at HD0
  rw [← hfb]
  generalize w2.alloc (Obj.cells #[Value.slice (some ⟨b, 0, none⟩) R Cb, Value.slice pa k pc, Value.int .i64 D, Value.bool od] 72) = W5 at *
  have HD := Lib.hid HD0
  clear CE hb2 hb3 hG hO hI HE hfb HD0
  have S0 : Hid ((NSt W5.heap.size W5 n k p E D 0 (fun _ => 0) (.slice none 0 0) ∧ Below W5.heap.size W5 W5) ∧ NxS k p 0 0) :=
    ⟨⟨⟨World.ownsRow_nil _ _ _ _, fun c hc => by cases hc⟩, Below.refl _ _⟩, Nat.zero_le _, fun l h => by omega, fun l _ _ => Nat.zero_le _⟩
  go_wp2_with fail
  go_loopg [7, 6, 5] n (fun g s7 s6 s5 wx => ∃ (c x : Nat) (V : Nat → Nat), s7 = .int .i64 c ∧ s6 = .int .i64 x ∧ g = n - c ∧ c ≤ n ∧ Hid ((NSt W5.heap.size wx n k p E D c V s5 ∧ Below W5.heap.size W5 wx) ∧ NxS k p c x))
  case atStart => exact ⟨0, 0, _, rfl, rfl, rfl, Nat.zero_le _, S0⟩
  case round =>
    clear S0
    obtain ⟨c, x, V, rfl, rfl, rfl, hc, S⟩ := hrel
    rename World => W6
    by_cases hlt : c < n
    · have wk : IntKind.i64.wrap ((c : Int) + 1) = ((c + 1 : Nat) : Int) := by rw [IntWalk.i64_in _ (by omega)]; omega
      have hxk : x ≤ k := S.out.2.1
      have wx : IntKind.i64.wrap ((x : Int) + 1) = ((x + 1 : Nat) : Int) := by rw [IntWalk.i64_in _ (by omega)]; omega
      obtain ⟨va, vc, hvv⟩ := own_form S.out.1.1.own
      subst hvv
      obtain ⟨tb, htb⟩ : ∃ q, decide (∃ l, l < k ∧ p l = c) = q := ⟨_, rfl⟩
      have HT := Lib.hid htb
      go_upto_region 8 with fail
      go_cut [38] (fun s38 wx => s38 = .bool tb ∧ wx = W6)
      case first =>
        have D6 := HD.out.on S.out.1.2
        have q1 := D6.e.c1
        by_cases hx : x < k
        · obtain ⟨pg, hpa, hpg, hpc⟩ := D6.piv (by omega)
          subst hpa
          have q2 := hpc x hx
          have t1 : (x : Int) < (k : Int) := by omega
          have t2 : decide ((x : Int) < (k : Int)) = true := decide_eq_true t1
          obtain ⟨pj, hpj⟩ : ∃ y, p x = y := ⟨_, rfl⟩
          rw [hpj] at q2
          by_cases he : pj = c
          · have eq1 : tb = true := by rw [← htb]; exact decide_eq_true ⟨x, hx, by rw [hpj, he]⟩
            subst eq1
            subst he
            clear D6 hpc hpg htb HT hpj
            go_wp2_with fail
            go_meet
            exact ⟨rfl, rfl⟩
          · have eq1 : tb = false := by
              cases tb
              · rfl
              · exact absurd (S.out.2.of_true HI.out.up htb).1.2 (by rw [hpj]; exact he)
            subst eq1
            have h1 : ¬ ((pj : Int) = (c : Int)) := by omega
            have h2 : ((pj : Int) == (c : Int)) = false := by simpa using h1
            clear D6 hpc hpg htb HT hpj he
            go_wp2_with fail
            go_meet
            exact ⟨rfl, rfl⟩
        · have eq1 : tb = false := by
            cases tb
            · rfl
            · exact absurd (S.out.2.of_true HI.out.up htb).1.1 hx
          subst eq1
          have t1 : ¬ (x : Int) < (k : Int) := by omega
          have t2 : decide ((x : Int) < (k : Int)) = false := decide_eq_false t1
          clear D6 htb HT
          go_wp2_with fail
          go_meet
          exact ⟨rfl, rfl⟩
      case rest =>
        clear htb
        obtain ⟨rfl, rfl⟩ := hcut
        rename World => W6
        cases tb
        case true =>
          have hfe := frL_in HT.out
          have T : Hid ((NSt W5.heap.size W6 n k p E D (c + 1) V (.slice va (frL k p c).length vc) ∧ Below W5.heap.size W5 W6) ∧ NxS k p (c + 1) (x + 1)) := ⟨⟨⟨by rw [hfe]; exact S.out.1.1.own, fun l hc => S.out.1.1.vec l (by rwa [hfe] at hc)⟩, S.out.1.2⟩, (S.out.2.of_true HI.out.up HT.out).2⟩
          clear hfe S
          go_wp2_with fail
          go_roundg (n - (c + 1))
          case measure => omega
          case rel => exact ⟨c + 1, x + 1, V, rfl, rfl, rfl, by omega, T⟩
        case false =>
          have HL := frL_len k c p
          go_upto_region 11 with (refine wpList_make_full _ rfl _ _ 35 rfl W6.heap.size 45 i0 (Value.agg #[Value.int IntKind.i64 0, Value.int IntKind.i64 0]) 2 Try.underlying35 hi0 hz0 hz1 _ _ _ _ n rfl rfl rfl rfl (by rw [hz2]; omega) (by unfold maxLen; omega) (Nat.le_refl _) ?_; intro w1 ho hg)
          have hb6 : Below W6.heap.size W6 w1 := ⟨hg.os, hg.tape, hg.output, hg.size, fun k hk => hg.block k hk (by simp)⟩
          obtain ⟨xb, hxb⟩ : ∃ x, x = W6.heap.size := ⟨_, rfl⟩
          have F0 := FrX.made ho hn0
          rw [← hxb] at F0
          rw [← hxb]
          have HXB : Hid (W6.heap.size ≤ xb) := by show W6.heap.size ≤ xb; rw [hxb]; exact Nat.le_refl _
          have T0 : Hid (FrX w1 xb n (fun l => if l < 0 then (0, 1) else (0, 0)) ∧ Below W6.heap.size W6 w1) := ⟨F0.congr fun l _ => if_neg (by omega), hb6⟩
          have HXN : Hid (¬ xb < W6.heap.size) := by show ¬ xb < W6.heap.size; rw [hxb]; exact Nat.lt_irrefl _
          clear ho hg hb6 F0 hxb
          have CZ := fun W => Lib.hid (refOf_any 0 W)
          have CO := fun W => Lib.hid (refOf_any 1 W)
          go_wp2_with fail
          go_loopg [9] n (fun g s9 wx => ∃ l : Nat, s9 = .int .i64 l ∧ g = n - l ∧ l ≤ n ∧ Hid (FrX wx xb n (fun m => if m < l then (0, 1) else (0, 0)) ∧ Below W6.heap.size W6 wx))
          case atStart => exact ⟨0, rfl, rfl, Nat.zero_le _, T0⟩
          case round =>
            clear T0
            obtain ⟨l, rfl, rfl, hl, T⟩ := hrel
            rename World => W7
            by_cases hltl : l < n
            · have wl : IntKind.i64.wrap ((l : Int) + 1) = ((l + 1 : Nat) : Int) := by rw [IntWalk.i64_in _ (by omega)]; omega
              go_wp2_with fail
              (with_reducible refine (((CZ _).out).mono ?_))
              rintro e w7 ⟨rfl, hb7⟩
              have HF7 := Lib.hid (T.out.1.on hb7)
              have HB7 := Lib.hid (below_on T.out.2 hb7)
              clear hb7 T
              have x0 := HF7.out.c0 l hltl
              have x1 := HF7.out.c1 l hltl
              have y0 := HF7.out.f0 l hltl
              have y1 := HF7.out.f1 l hltl
              go_wp2_with fail
              have T : Hid (FrX ((w7.setCell ⟨xb, l * 2, none⟩ (.int .i64 0)).setCell ⟨xb, l * 2 + 1, none⟩ (.int .i64 1)) xb n (fun m => if m < l + 1 then (0, 1) else (0, 0)) ∧ Below W6.heap.size W6 ((w7.setCell ⟨xb, l * 2, none⟩ (.int .i64 0)).setCell ⟨xb, l * 2 + 1, none⟩ (.int .i64 1))) :=
                ⟨(HF7.out.set l hltl 0 1).congr fun m hm => by
                  unfold updF
                  by_cases e : m = l
                  · subst e; rw [if_pos (by omega), if_pos rfl]
                  · rw [if_neg e]
                    show _ = if m < l then ((0 : Int), (1 : Int)) else (0, 0)
                    by_cases g : m < l
                    · rw [if_pos g, if_pos (by omega)]
                    · rw [if_neg g, if_neg (by omega)], (HB7.out.setCell HXB.out _).setCell HXB.out _⟩
              clear x0 x1 y0 y1 HF7 HB7
              go_roundg (n - (l + 1))
              case measure => omega
              case rel => exact ⟨l + 1, rfl, rfl, by omega, T⟩
            · have e : l = n := by omega
              subst e
              go_wp2_with fail
              (with_reducible refine (((CO _).out).mono ?_))
              rintro e w7 ⟨rfl, hb7⟩
              have HF7 : Hid (FrX w7 xb l (nullA p E D c 0)) := (T.out.1.congr (F2 := nullA p E D c 0) fun m hm => (if_pos hm).symm).on hb7
              have HB7 := Lib.hid (below_on T.out.2 hb7)
              clear hb7 T
              have x0 := HF7.out.c0 c hlt
              have x1 := HF7.out.c1 c hlt
              have y0 := HF7.out.f0 c hlt
              have y1 := HF7.out.f1 c hlt
              go_wp2_with fail
              have T0 : Hid (FrX ((w7.setCell ⟨xb, c * 2, none⟩ (.int .i64 1)).setCell ⟨xb, c * 2 + 1, none⟩ (.int .i64 1)) xb l (updF (nullA p E D c 0) c (1, 1)) ∧ Below W6.heap.size W6 ((w7.setCell ⟨xb, c * 2, none⟩ (.int .i64 1)).setCell ⟨xb, c * 2 + 1, none⟩ (.int .i64 1))) := ⟨HF7.out.set c hlt 1 1, (HB7.out.setCell HXB.out _).setCell HXB.out _⟩
              clear x0 x1 y0 y1 HF7 HB7
              go_loopg [10] k (fun g s10 wx => ∃ i : Nat, s10 = .int .i64 i ∧ g = k - i ∧ i ≤ k ∧ Hid (FrX wx xb l (updF (nullA p E D c i) c (1, 1)) ∧ Below W6.heap.size W6 wx))
              case atStart => exact ⟨0, rfl, rfl, Nat.zero_le _, T0⟩
              case round =>
                clear T0
                obtain ⟨i, rfl, rfl, hik, T⟩ := hrel
                rename World => W1
                have D1 := HD.out.on (below_on S.out.1.2 T.out.2)
                have q1 := D1.e.c1
                by_cases hlti : i < k
                · have wi : IntKind.i64.wrap ((i : Int) + 1) = ((i + 1 : Nat) : Int) := by rw [IntWalk.i64_in _ (by omega)]; omega
                  obtain ⟨pg, hpa, hpg, hpc⟩ := D1.piv (by omega)
                  subst hpa
                  have iR : i < R := by omega
                  have LM : Hid (W1.cell? ⟨fb, 0, none⟩ = some (.slice (some ⟨b, 0, none⟩) R Cb) ∧ fb < W1.heap.size) := ⟨D1.e.c0, D1.e.hb⟩
                  have LI : Hid (W1.cell? ⟨b, i, none⟩ = some (.slice (some ⟨G i, 0, none⟩) l (C i)) ∧ b < W1.heap.size) := ⟨D1.g.top i iR, D1.g.hb⟩
                  have LA : Hid (W1.cell? ⟨G i, c, none⟩ = some (.int .i64 (E i c)) ∧ G i < W1.heap.size) := ⟨D1.g.cell i c iR hlt, (D1.g.row i iR).2.1⟩
                  have LL : Hid (W1.cell? ⟨fb, 2, none⟩ = some (.int .i64 D) ∧ fb < W1.heap.size) := ⟨D1.e.c2, D1.e.hb⟩
                  have HP1 : Hid (W1.cell? ⟨fb, 1, none⟩ = some (.slice (some ⟨pg, 0, none⟩) k pc) ∧ fb < W1.heap.size) := ⟨D1.e.c1, D1.e.hb⟩
                  have HP2 : Hid (W1.cell? ⟨pg, i, none⟩ = some (.int .i64 (p i)) ∧ pg < W1.heap.size) := ⟨hpc i hlti, hpg⟩
                  have hs := HI.out.small.2 i c iR hlt
                  have hd := HI.out.small.1
                  have hpl := HI.out.lt i hlti
                  obtain ⟨va2, hva⟩ : ∃ y, E i c = y := ⟨_, rfl⟩
                  rw [hva] at LA hs
                  obtain ⟨nv, hnv⟩ : ∃ y, -va2 = y := ⟨_, rfl⟩
                  have wn : IntKind.i64.wrap (0 - va2) = nv := by rw [IntWalk.i64_in _ (by omega)]; omega
                  have wn2 : IntKind.i64.wrap (-va2) = nv := by rw [IntWalk.i64_in _ (by omega)]; omega
                  obtain ⟨xn, xd, xe, hx⟩ : ∃ a d e, makeT nv D = (a, d, e) := ⟨_, _, _, rfl⟩
                  have CK := fun W => Lib.hid (refMake_any nv D W (by omega) (by omega) (by omega) (by omega) xn xd xe hx)
                  have HX : Hid (shF (-(E i c)) D = (xn, xd)) := by show shF (-(E i c)) D = (xn, xd); rw [hva, hnv]; unfold shF; rw [hx]
                  have HNE : Hid (c ≠ p i) := fun e => (of_decide_eq_false HT.out) ⟨i, hlti, e.symm⟩
                  obtain ⟨pj, hpj⟩ : ∃ y, p i = y := ⟨_, rfl⟩
                  rw [hpj] at HP2 hpl HNE
                  have HPJ := Lib.hid hpj
                  have iRi : (i : Int) < (R : Int) := by omega
                  clear D1 hs hd hva hx hpc hpg hnv hpj
                  go_upto_region 19 with fail
                  clear q1
                  refine wp_region_each (fun L A W => ∃ (v : Nat → Value) (g : Nat → Nat), A = ⟨#[_, _, _, _, _, _, _, _, _, _, _, v 11, v 12, _, _, _, _, _, _, _, _, _, _, _, _, _, _, _, _, _, _, _, _, _, _, _, _, _, _, _, _, _, _, _, _, _, _, _, _, _, _, _, _, _, _, _, _, _, _, _, _, _, _, v 63, v 64, v 65, v 66, v 67, v 68, v 69, v 70, v 71, v 72, v 73, v 74, v 75, v 76, v 77, _, _, _, _, _, _, _, _, _, _, _, _, _], []⟩ ∧ RNuR fb b R Cb (G i) (C i) l i c va2 nv D xn xd xe W1 L v g W) (by kernel_rfl) (by kernel_rfl) ⟨fun jz => if jz = 64 then u64 else if jz = 65 then u65 else if jz = 66 then u66 else if jz = 67 then u67 else if jz = 68 then u68 else if jz = 69 then u69 else if jz = 70 then u70 else if jz = 71 then u71 else if jz = 72 then u72 else if jz = 73 then u73 else if jz = 74 then u74 else if jz = 75 then u75 else if jz = 63 then u63 else if jz = 76 then u76 else if jz = 77 then u77 else if jz = 11 then u11 else if jz = 12 then u12 else undef, fun _ => 0, rfl, ⟨Below.drew (Below.refl _ _), Had.none, Had.none, Had.none, Had.none, Had.none, Had.none, Had.none, Had.none, Had.none, Had.none, Had.none, Had.none, Had.none, Had.none, Had.none, Had.none, Had.none, Had.none, Had.none⟩⟩ (rs := [0, 1, 2, 3, 4, 5, 6, 7, 8, 9, 10, 11, 12, 13, 14, 15, 16, 17]) (by kernel_rfl) ?_ ?_
                  · refine EachOf.cons [] rfl (by kernel_rfl) ?_ ?_
                    · rintro L A W ⟨v, g, rfl, hR⟩ hi hw K hK
                      go_simp
                      refine hK.out _ _ ?_
                      exact ⟨(fun jz => if jz = 64 then .pointer (some ⟨fb, 0, none⟩) else v jz), g, rfl, ⟨hR.st, (fun _ => rfl), hR.f1.keep rfl, hR.f2.keep rfl, hR.f3.keep rfl, hR.f4.keep rfl, hR.f5.keep rfl, hR.f6.keep rfl, hR.f7.keep rfl, hR.f8.keep rfl, hR.f9.keep rfl, hR.f10.keep rfl, hR.f11.keep rfl, hR.f12.keep rfl, hR.f13.keep rfl, hR.f14.keep rfl, hR.f15.keep rfl, hR.f17.keep rfl, hR.b15.keep rfl, hR.c16.keepM rfl (fun h => ⟨upd_on h.1, h.2⟩)⟩⟩
                    refine EachOf.cons [0] rfl (by kernel_rfl) ?_ ?_
                    · rintro L A W ⟨v, g, rfl, hR⟩ hi hw K hK
                      have e0 := hR.f0 (hw 0 (by simp))
                      simp only [e0]
                      clear e0
                      have q0 := (hR.st.cell (p := ⟨fb, 0, none⟩) LM.out.2).trans LM.out.1
                      go_simp
                      refine hK.out _ _ ?_
                      exact ⟨(fun jz => if jz = 64 then .pointer (some ⟨fb, 0, none⟩) else if jz = 65 then .slice (some ⟨b, 0, none⟩) R Cb else v jz), g, rfl, ⟨hR.st, (fun _ => rfl), (fun _ => rfl), hR.f2.keep rfl, hR.f3.keep rfl, hR.f4.keep rfl, hR.f5.keep rfl, hR.f6.keep rfl, hR.f7.keep rfl, hR.f8.keep rfl, hR.f9.keep rfl, hR.f10.keep rfl, hR.f11.keep rfl, hR.f12.keep rfl, hR.f13.keep rfl, hR.f14.keep rfl, hR.f15.keep rfl, hR.f17.keep rfl, hR.b15.keep rfl, hR.c16.keepM rfl (fun h => ⟨upd_on h.1, h.2⟩)⟩⟩
                    refine EachOf.cons [] rfl (by kernel_rfl) ?_ ?_
                    · rintro L A W ⟨v, g, rfl, hR⟩ hi hw K hK
                      go_simp
                      refine hK.out _ _ ?_
                      exact ⟨(fun jz => if jz = 66 then .int .i64 (i : Int) else v jz), g, rfl, ⟨hR.st, hR.f0.keep rfl, hR.f1.keep rfl, (fun _ => rfl), hR.f3.keep rfl, hR.f4.keep rfl, hR.f5.keep rfl, hR.f6.keep rfl, hR.f7.keep rfl, hR.f8.keep rfl, hR.f9.keep rfl, hR.f10.keep rfl, hR.f11.keep rfl, hR.f12.keep rfl, hR.f13.keep rfl, hR.f14.keep rfl, hR.f15.keep rfl, hR.f17.keep rfl, hR.b15.keep rfl, hR.c16.keepM rfl (fun h => ⟨upd_on h.1, h.2⟩)⟩⟩
                    refine EachOf.cons [1, 2] rfl (by kernel_rfl) ?_ ?_
                    · rintro L A W ⟨v, g, rfl, hR⟩ hi hw K hK
                      have e1 := hR.f1 (hw 1 (by simp))
                      have e2 := hR.f2 (hw 2 (by simp))
                      simp only [e1, e2]
                      clear e1 e2
                      go_simp
                      refine hK.out _ _ ?_
                      exact ⟨(fun jz => if jz = 65 then .slice (some ⟨b, 0, none⟩) R Cb else if jz = 66 then .int .i64 (i : Int) else if jz = 67 then .pointer (some ⟨b, i, none⟩) else v jz), g, rfl, ⟨hR.st, hR.f0.keep rfl, (fun _ => rfl), (fun _ => rfl), (fun _ => rfl), hR.f4.keep rfl, hR.f5.keep rfl, hR.f6.keep rfl, hR.f7.keep rfl, hR.f8.keep rfl, hR.f9.keep rfl, hR.f10.keep rfl, hR.f11.keep rfl, hR.f12.keep rfl, hR.f13.keep rfl, hR.f14.keep rfl, hR.f15.keep rfl, hR.f17.keep rfl, hR.b15.keep rfl, hR.c16.keepM rfl (fun h => ⟨upd_on h.1, h.2⟩)⟩⟩
                    refine EachOf.cons [3] rfl (by kernel_rfl) ?_ ?_
                    · rintro L A W ⟨v, g, rfl, hR⟩ hi hw K hK
                      have e3 := hR.f3 (hw 3 (by simp))
                      simp only [e3]
                      clear e3
                      have q0 := (hR.st.cell (p := ⟨b, i, none⟩) LI.out.2).trans LI.out.1
                      go_simp
                      refine hK.out _ _ ?_
                      exact ⟨(fun jz => if jz = 67 then .pointer (some ⟨b, i, none⟩) else if jz = 68 then .slice (some ⟨G i, 0, none⟩) l (C i) else v jz), g, rfl, ⟨hR.st, hR.f0.keep rfl, hR.f1.keep rfl, hR.f2.keep rfl, (fun _ => rfl), (fun _ => rfl), hR.f5.keep rfl, hR.f6.keep rfl, hR.f7.keep rfl, hR.f8.keep rfl, hR.f9.keep rfl, hR.f10.keep rfl, hR.f11.keep rfl, hR.f12.keep rfl, hR.f13.keep rfl, hR.f14.keep rfl, hR.f15.keep rfl, hR.f17.keep rfl, hR.b15.keep rfl, hR.c16.keepM rfl (fun h => ⟨upd_on h.1, h.2⟩)⟩⟩
                    refine EachOf.cons [] rfl (by kernel_rfl) ?_ ?_
                    · rintro L A W ⟨v, g, rfl, hR⟩ hi hw K hK
                      go_simp
                      refine hK.out _ _ ?_
                      exact ⟨(fun jz => if jz = 69 then .int .i64 (c : Int) else v jz), g, rfl, ⟨hR.st, hR.f0.keep rfl, hR.f1.keep rfl, hR.f2.keep rfl, hR.f3.keep rfl, hR.f4.keep rfl, (fun _ => rfl), hR.f6.keep rfl, hR.f7.keep rfl, hR.f8.keep rfl, hR.f9.keep rfl, hR.f10.keep rfl, hR.f11.keep rfl, hR.f12.keep rfl, hR.f13.keep rfl, hR.f14.keep rfl, hR.f15.keep rfl, hR.f17.keep rfl, hR.b15.keep rfl, hR.c16.keepM rfl (fun h => ⟨upd_on h.1, h.2⟩)⟩⟩
                    refine EachOf.cons [4, 5] rfl (by kernel_rfl) ?_ ?_
                    · rintro L A W ⟨v, g, rfl, hR⟩ hi hw K hK
                      have e4 := hR.f4 (hw 4 (by simp))
                      have e5 := hR.f5 (hw 5 (by simp))
                      simp only [e4, e5]
                      clear e4 e5
                      go_simp
                      refine hK.out _ _ ?_
                      exact ⟨(fun jz => if jz = 68 then .slice (some ⟨G i, 0, none⟩) l (C i) else if jz = 69 then .int .i64 (c : Int) else if jz = 70 then .pointer (some ⟨G i, c, none⟩) else v jz), g, rfl, ⟨hR.st, hR.f0.keep rfl, hR.f1.keep rfl, hR.f2.keep rfl, hR.f3.keep rfl, (fun _ => rfl), (fun _ => rfl), (fun _ => rfl), hR.f7.keep rfl, hR.f8.keep rfl, hR.f9.keep rfl, hR.f10.keep rfl, hR.f11.keep rfl, hR.f12.keep rfl, hR.f13.keep rfl, hR.f14.keep rfl, hR.f15.keep rfl, hR.f17.keep rfl, hR.b15.keep rfl, hR.c16.keepM rfl (fun h => ⟨upd_on h.1, h.2⟩)⟩⟩
                    refine EachOf.cons [6] rfl (by kernel_rfl) ?_ ?_
                    · rintro L A W ⟨v, g, rfl, hR⟩ hi hw K hK
                      have e6 := hR.f6 (hw 6 (by simp))
                      simp only [e6]
                      clear e6
                      have q0 := (hR.st.cell (p := ⟨G i, c, none⟩) LA.out.2).trans LA.out.1
                      go_simp
                      refine hK.out _ _ ?_
                      exact ⟨(fun jz => if jz = 70 then .pointer (some ⟨G i, c, none⟩) else if jz = 71 then .int .i64 va2 else v jz), g, rfl, ⟨hR.st, hR.f0.keep rfl, hR.f1.keep rfl, hR.f2.keep rfl, hR.f3.keep rfl, hR.f4.keep rfl, hR.f5.keep rfl, (fun _ => rfl), (fun _ => rfl), hR.f8.keep rfl, hR.f9.keep rfl, hR.f10.keep rfl, hR.f11.keep rfl, hR.f12.keep rfl, hR.f13.keep rfl, hR.f14.keep rfl, hR.f15.keep rfl, hR.f17.keep rfl, hR.b15.keep rfl, hR.c16.keepM rfl (fun h => ⟨upd_on h.1, h.2⟩)⟩⟩
                    refine EachOf.cons [7] rfl (by kernel_rfl) ?_ ?_
                    · rintro L A W ⟨v, g, rfl, hR⟩ hi hw K hK
                      have e7 := hR.f7 (hw 7 (by simp))
                      simp only [e7]
                      clear e7
                      go_simp
                      refine hK.out _ _ ?_
                      exact ⟨(fun jz => if jz = 71 then .int .i64 va2 else if jz = 72 then .int .i64 nv else v jz), g, rfl, ⟨hR.st, hR.f0.keep rfl, hR.f1.keep rfl, hR.f2.keep rfl, hR.f3.keep rfl, hR.f4.keep rfl, hR.f5.keep rfl, hR.f6.keep rfl, (fun _ => rfl), (fun _ => rfl), hR.f9.keep rfl, hR.f10.keep rfl, hR.f11.keep rfl, hR.f12.keep rfl, hR.f13.keep rfl, hR.f14.keep rfl, hR.f15.keep rfl, hR.f17.keep rfl, hR.b15.keep rfl, hR.c16.keepM rfl (fun h => ⟨upd_on h.1, h.2⟩)⟩⟩
                    refine EachOf.cons [] rfl (by kernel_rfl) ?_ ?_
                    · rintro L A W ⟨v, g, rfl, hR⟩ hi hw K hK
                      go_simp
                      refine hK.out _ _ ?_
                      exact ⟨(fun jz => if jz = 73 then .pointer (some ⟨fb, 2, none⟩) else v jz), g, rfl, ⟨hR.st, hR.f0.keep rfl, hR.f1.keep rfl, hR.f2.keep rfl, hR.f3.keep rfl, hR.f4.keep rfl, hR.f5.keep rfl, hR.f6.keep rfl, hR.f7.keep rfl, hR.f8.keep rfl, (fun _ => rfl), hR.f10.keep rfl, hR.f11.keep rfl, hR.f12.keep rfl, hR.f13.keep rfl, hR.f14.keep rfl, hR.f15.keep rfl, hR.f17.keep rfl, hR.b15.keep rfl, hR.c16.keepM rfl (fun h => ⟨upd_on h.1, h.2⟩)⟩⟩
                    refine EachOf.cons [9] rfl (by kernel_rfl) ?_ ?_
                    · rintro L A W ⟨v, g, rfl, hR⟩ hi hw K hK
                      have e9 := hR.f9 (hw 9 (by simp))
                      simp only [e9]
                      clear e9
                      have q0 := (hR.st.cell (p := ⟨fb, 2, none⟩) LL.out.2).trans LL.out.1
                      go_simp
                      refine hK.out _ _ ?_
                      exact ⟨(fun jz => if jz = 73 then .pointer (some ⟨fb, 2, none⟩) else if jz = 74 then .int .i64 D else v jz), g, rfl, ⟨hR.st, hR.f0.keep rfl, hR.f1.keep rfl, hR.f2.keep rfl, hR.f3.keep rfl, hR.f4.keep rfl, hR.f5.keep rfl, hR.f6.keep rfl, hR.f7.keep rfl, hR.f8.keep rfl, (fun _ => rfl), (fun _ => rfl), hR.f11.keep rfl, hR.f12.keep rfl, hR.f13.keep rfl, hR.f14.keep rfl, hR.f15.keep rfl, hR.f17.keep rfl, hR.b15.keep rfl, hR.c16.keepM rfl (fun h => ⟨upd_on h.1, h.2⟩)⟩⟩
                    refine EachOf.cons [8, 10] rfl (by kernel_rfl) ?_ ?_
                    · rintro L A W ⟨v, g, rfl, hR⟩ hi hw K hK
                      have e8 := hR.f8 (hw 8 (by simp))
                      have e10 := hR.f10 (hw 10 (by simp))
                      simp only [e8, e10]
                      clear e8 e10
                      go_simp
                      go_at_call 54
                      (with_reducible refine ((CK _).out).mono ?_)
                      rintro e w2 ⟨rfl, hb⟩
                      go_simp
                      refine hK.out _ _ ?_
                      exact ⟨(fun jz => if jz = 72 then .int .i64 nv else if jz = 74 then .int .i64 D else if jz = 75 then .tuple #[.agg #[.int .i64 xn, .int .i64 xd], .int .i64 xe] else v jz), g, rfl, ⟨below_on hR.st hb, hR.f0.keep rfl, hR.f1.keep rfl, hR.f2.keep rfl, hR.f3.keep rfl, hR.f4.keep rfl, hR.f5.keep rfl, hR.f6.keep rfl, hR.f7.keep rfl, (fun _ => rfl), hR.f9.keep rfl, (fun _ => rfl), (fun _ => rfl), hR.f12.keep rfl, hR.f13.keep rfl, hR.f14.keep rfl, hR.f15.keep rfl, hR.f17.keep rfl, hR.b15.keepM rfl (fun h => h.on hb), hR.c16.keepM rfl (fun h => ⟨upd_on h.1, h.2.on hb⟩)⟩⟩
                    refine EachOf.cons [11] rfl (by kernel_rfl) ?_ ?_
                    · rintro L A W ⟨v, g, rfl, hR⟩ hi hw K hK
                      have e11 := hR.f11 (hw 11 (by simp))
                      simp only [e11]
                      clear e11
                      go_simp
                      refine hK.out _ _ ?_
                      exact ⟨(fun jz => if jz = 75 then .tuple #[.agg #[.int .i64 xn, .int .i64 xd], .int .i64 xe] else if jz = 63 then .tuple #[.agg #[.int .i64 xn, .int .i64 xd], .int .i64 xe] else v jz), g, rfl, ⟨hR.st, hR.f0.keep rfl, hR.f1.keep rfl, hR.f2.keep rfl, hR.f3.keep rfl, hR.f4.keep rfl, hR.f5.keep rfl, hR.f6.keep rfl, hR.f7.keep rfl, hR.f8.keep rfl, hR.f9.keep rfl, hR.f10.keep rfl, (fun _ => rfl), (fun _ => rfl), hR.f13.keep rfl, hR.f14.keep rfl, hR.f15.keep rfl, hR.f17.keep rfl, hR.b15.keep rfl, hR.c16.keepM rfl (fun h => ⟨upd_on h.1, h.2⟩)⟩⟩
                    refine EachOf.cons [12] rfl (by kernel_rfl) ?_ ?_
                    · rintro L A W ⟨v, g, rfl, hR⟩ hi hw K hK
                      have e12 := hR.f12 (hw 12 (by simp))
                      simp only [e12]
                      clear e12
                      go_simp
                      refine hK.out _ _ ?_
                      exact ⟨(fun jz => if jz = 63 then .tuple #[.agg #[.int .i64 xn, .int .i64 xd], .int .i64 xe] else if jz = 76 then .agg #[.int .i64 xn, .int .i64 xd] else v jz), g, rfl, ⟨hR.st, hR.f0.keep rfl, hR.f1.keep rfl, hR.f2.keep rfl, hR.f3.keep rfl, hR.f4.keep rfl, hR.f5.keep rfl, hR.f6.keep rfl, hR.f7.keep rfl, hR.f8.keep rfl, hR.f9.keep rfl, hR.f10.keep rfl, hR.f11.keep rfl, (fun _ => rfl), (fun _ => rfl), hR.f14.keep rfl, hR.f15.keep rfl, hR.f17.keep rfl, hR.b15.keep rfl, hR.c16.keepM rfl (fun h => ⟨upd_on h.1, h.2⟩)⟩⟩
                    refine EachOf.cons [12] rfl (by kernel_rfl) ?_ ?_
                    · rintro L A W ⟨v, g, rfl, hR⟩ hi hw K hK
                      have e12 := hR.f12 (hw 12 (by simp))
                      simp only [e12]
                      clear e12
                      go_simp
                      refine hK.out _ _ ?_
                      exact ⟨(fun jz => if jz = 63 then .tuple #[.agg #[.int .i64 xn, .int .i64 xd], .int .i64 xe] else if jz = 77 then .int .i64 xe else v jz), g, rfl, ⟨hR.st, hR.f0.keep rfl, hR.f1.keep rfl, hR.f2.keep rfl, hR.f3.keep rfl, hR.f4.keep rfl, hR.f5.keep rfl, hR.f6.keep rfl, hR.f7.keep rfl, hR.f8.keep rfl, hR.f9.keep rfl, hR.f10.keep rfl, hR.f11.keep rfl, (fun _ => rfl), hR.f13.keep rfl, (fun _ => rfl), hR.f15.keep rfl, hR.f17.keep rfl, hR.b15.keep rfl, hR.c16.keepM rfl (fun h => ⟨upd_on h.1, h.2⟩)⟩⟩
                    refine EachOf.cons [] rfl (by kernel_rfl) ?_ ?_
                    · rintro L A W ⟨v, g, rfl, hR⟩ hi hw K hK
                      have hz := hR.st.size
                      go_simp
                      refine hK.out _ _ ?_
                      have hb : Below W.heap.size W (W.alloc (Obj.cells #[Value.int IntKind.i64 0, Value.int IntKind.i64 0] 45)) := (Below.refl _ _).alloc (Nat.le_refl _) _
                      exact ⟨(fun jz => if jz = 11 then .pointer (some ⟨W.heap.size, 0, none⟩) else v jz), (fun jz => if jz = 15 then W.heap.size else g jz), rfl, ⟨below_on hR.st hb, hR.f0.keep rfl, hR.f1.keep rfl, hR.f2.keep rfl, hR.f3.keep rfl, hR.f4.keep rfl, hR.f5.keep rfl, hR.f6.keep rfl, hR.f7.keep rfl, hR.f8.keep rfl, hR.f9.keep rfl, hR.f10.keep rfl, hR.f11.keep rfl, hR.f12.keep rfl, hR.f13.keep rfl, hR.f14.keep rfl, (fun _ => rfl), hR.f17.keep rfl, (fun _ => Own.new _ _ _ _ hz), (fun h => absurd ((hR.c16 (upd_back h rfl)).1) (by simp [hi]))⟩⟩
                    refine EachOf.cons [15, 13] rfl (by kernel_rfl) ?_ ?_
                    · rintro L A W ⟨v, g, rfl, hR⟩ hi hw K hK
                      have e15 := hR.f15 (hw 15 (by simp))
                      have e13 := hR.f13 (hw 13 (by simp))
                      simp only [e15, e13]
                      clear e15 e13
                      have o2 := hR.b15 (hw 15 (by simp))
                      have o1 := o2.1
                      have HO := Lib.hid o2
                      clear o2
                      obtain ⟨_, ⟨u5, v5, l5, p5, q5⟩, r5, s5⟩ := HO.out
                      go_simp
                      have o2 := HO.out
                      refine hK.out _ _ ?_
                      exact ⟨(fun jz => if jz = 11 then .pointer (some ⟨g 15, 0, none⟩) else if jz = 76 then .agg #[.int .i64 xn, .int .i64 xd] else v jz), g, rfl, ⟨(hR.st.setCell (by simpa using o1) _).setCell (by simpa using o1) _, hR.f0.keep rfl, hR.f1.keep rfl, hR.f2.keep rfl, hR.f3.keep rfl, hR.f4.keep rfl, hR.f5.keep rfl, hR.f6.keep rfl, hR.f7.keep rfl, hR.f8.keep rfl, hR.f9.keep rfl, hR.f10.keep rfl, hR.f11.keep rfl, hR.f12.keep rfl, (fun _ => rfl), hR.f14.keep rfl, (fun _ => rfl), hR.f17.keep rfl, hR.b15.keepM rfl (fun h => h.set), (fun _ => ⟨upd_on (hw 15 (by simp)), o2.setw⟩)⟩⟩
                    refine EachOf.cons [14] rfl (by kernel_rfl) ?_ ?_
                    · rintro L A W ⟨v, g, rfl, hR⟩ hi hw K hK
                      have e14 := hR.f14 (hw 14 (by simp))
                      simp only [e14]
                      clear e14
                      go_simp
                      refine hK.out _ _ ?_
                      exact ⟨(fun jz => if jz = 77 then .int .i64 xe else if jz = 12 then .int .i64 xe else v jz), g, rfl, ⟨hR.st, hR.f0.keep rfl, hR.f1.keep rfl, hR.f2.keep rfl, hR.f3.keep rfl, hR.f4.keep rfl, hR.f5.keep rfl, hR.f6.keep rfl, hR.f7.keep rfl, hR.f8.keep rfl, hR.f9.keep rfl, hR.f10.keep rfl, hR.f11.keep rfl, hR.f12.keep rfl, hR.f13.keep rfl, (fun _ => rfl), hR.f15.keep rfl, (fun _ => rfl), hR.b15.keep rfl, hR.c16.keepM rfl (fun h => ⟨upd_on h.1, h.2⟩)⟩⟩
                    exact EachOf.nil
                  rintro L A W9 ⟨v, g, rfl, hR⟩ hL
                  have e12 := hR.f15 (hL 15 (by simp))
                  have HC := Lib.hid (hR.c16 (hL 16 (by simp))).2
                  have HT9 := Lib.hid hR.st
                  obtain ⟨tb, htb⟩ : ∃ x, g 15 = x := ⟨_, rfl⟩
                  rw [htb] at e12 HC
                  simp only [e12]
                  have LT0 : Hid (W9.cell? ⟨tb, 0, none⟩ = some (.int .i64 xn) ∧ tb < W9.heap.size) := ⟨HC.out.2.1, HC.out.1⟩
                  have LT1 : Hid (W9.cell? ⟨tb, 1, none⟩ = some (.int .i64 xd) ∧ tb < W9.heap.size) := ⟨HC.out.2.2, HC.out.1⟩
                  have LP : Hid (W9.cell? ⟨fb, 1, none⟩ = some (.slice (some ⟨pg, 0, none⟩) k pc) ∧ fb < W9.heap.size) := ⟨(HT9.out.cell (p := ⟨fb, 1, none⟩) HP1.out.2).trans HP1.out.1, Nat.lt_of_lt_of_le HP1.out.2 HT9.out.size⟩
                  have LQ : Hid (W9.cell? ⟨pg, i, none⟩ = some (.int .i64 (pj : Int)) ∧ pg < W9.heap.size) := ⟨(HT9.out.cell (p := ⟨pg, i, none⟩) HP2.out.2).trans HP2.out.1, Nat.lt_of_lt_of_le HP2.out.2 HT9.out.size⟩
                  have HF9 := Lib.hid (T.out.1.on HT9.out)
                  have HK9 := Lib.hid (below_on T.out.2 HT9.out)
                  have LS0 : Hid (W9.cell? ⟨xb, pj * 2, none⟩ = some (.int .i64 (updF (nullA p E D c i) c (1, 1) pj).1) ∧ xb < W9.heap.size) := ⟨HF9.out.c0 pj hpl, HF9.out.hb⟩
                  have LS1 : Hid (W9.cell? ⟨xb, pj * 2 + 1, none⟩ = some (.int .i64 (updF (nullA p E D c i) c (1, 1) pj).2) ∧ xb < W9.heap.size) := ⟨HF9.out.c1 pj hpl, HF9.out.hb⟩
                  have LF0 : Hid (W9.frozen? ⟨xb, pj * 2, none⟩ = false) := HF9.out.f0 pj hpl
                  have LF1 : Hid (W9.frozen? ⟨xb, pj * 2 + 1, none⟩ = false) := HF9.out.f1 pj hpl
                  clear e12 htb hR hL LM LI LA LL CK HC HP1 HP2 T wn wn2
                  go_upto_region 20 with fail
                  refine wp_region_each (fun L A W => ∃ (v : Nat → Value), A = ⟨#[_, _, _, _, _, _, _, _, _, _, _, _, _, _, _, _, _, _, _, _, _, _, _, _, _, _, _, _, _, _, _, _, _, _, _, _, _, _, _, _, _, _, _, _, _, _, _, _, _, _, _, _, _, _, _, _, _, _, _, _, _, _, _, _, _, _, _, _, _, _, _, _, _, _, _, _, _, _, v 78, v 79, v 80, v 81, v 82, v 83, v 84, v 85, _, _, _, _, _], []⟩ ∧ RNwR xb l fb k pg pc i pj tb xn xd W9 L v W) (by kernel_rfl) (by kernel_rfl) ⟨fun jz => if jz = 78 then u78 else if jz = 79 then u79 else if jz = 80 then u80 else if jz = 81 then u81 else if jz = 82 then u82 else if jz = 83 then u83 else if jz = 84 then u84 else if jz = 85 then u85 else undef, rfl, ⟨(fun _ => Below.drew (Below.refl _ _)), Had.none, Had.none, Had.none, Had.none, Had.none, Had.none, Had.none, Had.none, Had.none, Had.none, Had.none, Had.none, Had.none, Had.none⟩⟩ (rs := [0, 1, 2, 3, 4, 5, 6, 7, 8]) (by kernel_rfl) ?_ ?_
                  · refine EachOf.cons [] rfl (by kernel_rfl) ?_ ?_
                    · rintro L A W ⟨v, rfl, hR⟩ hi hw K hK
                      have hk : L 8 = false := hR.w8.not hi rfl
                      go_simp
                      refine hK.out _ _ ?_
                      exact ⟨(fun jz => if jz = 78 then .slice (some ⟨xb, 0, none⟩) (l) (l) else v jz), rfl, ⟨(fun h => hR.st (upd_false h)), hR.s1.keep rfl, hR.w2.keepM rfl (fun h j hj => upd_on (h j hj)), hR.w4.keepM rfl (fun h j hj => upd_on (h j hj)), hR.w5.keepM rfl (fun h j hj => upd_on (h j hj)), hR.w7.keepM rfl (fun h j hj => upd_on (h j hj)), hR.w8.keepM rfl (fun h j hj => upd_on (h j hj)), (fun _ => rfl), hR.f1.keep rfl, hR.f2.keep rfl, hR.f3.keep rfl, hR.f4.keep rfl, hR.f5.keep rfl, hR.f6.keep rfl, hR.f7.keep rfl⟩⟩
                    refine EachOf.cons [] rfl (by kernel_rfl) ?_ ?_
                    · rintro L A W ⟨v, rfl, hR⟩ hi hw K hK
                      have hk : L 8 = false := hR.w8.not hi rfl
                      go_simp
                      refine hK.out _ _ ?_
                      exact ⟨(fun jz => if jz = 79 then .pointer (some ⟨fb, 1, none⟩) else v jz), rfl, ⟨(fun h => hR.st (upd_false h)), hR.s1.keep rfl, hR.w2.keepM rfl (fun h j hj => upd_on (h j hj)), hR.w4.keepM rfl (fun h j hj => upd_on (h j hj)), hR.w5.keepM rfl (fun h j hj => upd_on (h j hj)), hR.w7.keepM rfl (fun h j hj => upd_on (h j hj)), hR.w8.keepM rfl (fun h j hj => upd_on (h j hj)), hR.f0.keep rfl, (fun _ => rfl), hR.f2.keep rfl, hR.f3.keep rfl, hR.f4.keep rfl, hR.f5.keep rfl, hR.f6.keep rfl, hR.f7.keep rfl⟩⟩
                    refine EachOf.cons [1] rfl (by kernel_rfl) ?_ ?_
                    · rintro L A W ⟨v, rfl, hR⟩ hi hw K hK
                      have hk : L 8 = false := hR.w8.not hi rfl
                      have e1 := hR.f1 (hw 1 (by simp))
                      simp only [e1]
                      clear e1
                      have q0 := ((hR.st hk).cell (p := ⟨fb, 1, none⟩) LP.out.2).trans LP.out.1
                      go_simp
                      refine hK.out _ _ ?_
                      exact ⟨(fun jz => if jz = 79 then .pointer (some ⟨fb, 1, none⟩) else if jz = 80 then .slice (some ⟨pg, 0, none⟩) (k) (pc) else v jz), rfl, ⟨(fun h => hR.st (upd_false h)), hR.s1.keep rfl, (fun _ j hj => upd_on (hw j hj)), hR.w4.keepM rfl (fun h j hj => upd_on (h j hj)), hR.w5.keepM rfl (fun h j hj => upd_on (h j hj)), hR.w7.keepM rfl (fun h j hj => upd_on (h j hj)), hR.w8.keepM rfl (fun h j hj => upd_on (h j hj)), hR.f0.keep rfl, (fun _ => rfl), (fun _ => rfl), hR.f3.keep rfl, hR.f4.keep rfl, hR.f5.keep rfl, hR.f6.keep rfl, hR.f7.keep rfl⟩⟩
                    refine EachOf.cons [] rfl (by kernel_rfl) ?_ ?_
                    · rintro L A W ⟨v, rfl, hR⟩ hi hw K hK
                      have hk : L 8 = false := hR.w8.not hi rfl
                      go_simp
                      refine hK.out _ _ ?_
                      exact ⟨(fun jz => if jz = 81 then .int .i64 (i : Int) else v jz), rfl, ⟨(fun h => hR.st (upd_false h)), hR.s1.keep rfl, hR.w2.keepM rfl (fun h j hj => upd_on (h j hj)), hR.w4.keepM rfl (fun h j hj => upd_on (h j hj)), hR.w5.keepM rfl (fun h j hj => upd_on (h j hj)), hR.w7.keepM rfl (fun h j hj => upd_on (h j hj)), hR.w8.keepM rfl (fun h j hj => upd_on (h j hj)), hR.f0.keep rfl, hR.f1.keep rfl, hR.f2.keep rfl, (fun _ => rfl), hR.f4.keep rfl, hR.f5.keep rfl, hR.f6.keep rfl, hR.f7.keep rfl⟩⟩
                    refine EachOf.cons [2, 3] rfl (by kernel_rfl) ?_ ?_
                    · rintro L A W ⟨v, rfl, hR⟩ hi hw K hK
                      have hk : L 8 = false := hR.w8.not hi rfl
                      have e2 := hR.f2 (hw 2 (by simp))
                      have e3 := hR.f3 (hw 3 (by simp))
                      simp only [e2, e3]
                      clear e2 e3
                      go_simp
                      refine hK.out _ _ ?_
                      exact ⟨(fun jz => if jz = 80 then .slice (some ⟨pg, 0, none⟩) (k) (pc) else if jz = 81 then .int .i64 (i : Int) else if jz = 82 then .pointer (some ⟨pg, i, none⟩) else v jz), rfl, ⟨(fun h => hR.st (upd_false h)), hR.s1.keep rfl, hR.w2.keepM rfl (fun h j hj => upd_on (h j hj)), (fun _ j hj => upd_on (hw j hj)), hR.w5.keepM rfl (fun h j hj => upd_on (h j hj)), hR.w7.keepM rfl (fun h j hj => upd_on (h j hj)), hR.w8.keepM rfl (fun h j hj => upd_on (h j hj)), hR.f0.keep rfl, hR.f1.keep rfl, (fun _ => rfl), (fun _ => rfl), (fun _ => rfl), hR.f5.keep rfl, hR.f6.keep rfl, hR.f7.keep rfl⟩⟩
                    refine EachOf.cons [4] rfl (by kernel_rfl) ?_ ?_
                    · rintro L A W ⟨v, rfl, hR⟩ hi hw K hK
                      have hk : L 8 = false := hR.w8.not hi rfl
                      have e4 := hR.f4 (hw 4 (by simp))
                      simp only [e4]
                      clear e4
                      have q0 := ((hR.st hk).cell (p := ⟨pg, i, none⟩) LQ.out.2).trans LQ.out.1
                      go_simp
                      refine hK.out _ _ ?_
                      exact ⟨(fun jz => if jz = 82 then .pointer (some ⟨pg, i, none⟩) else if jz = 83 then .int .i64 (pj : Int) else v jz), rfl, ⟨(fun h => hR.st (upd_false h)), hR.s1.keep rfl, hR.w2.keepM rfl (fun h j hj => upd_on (h j hj)), hR.w4.keepM rfl (fun h j hj => upd_on (h j hj)), (fun _ j hj => upd_on (hw j hj)), hR.w7.keepM rfl (fun h j hj => upd_on (h j hj)), hR.w8.keepM rfl (fun h j hj => upd_on (h j hj)), hR.f0.keep rfl, hR.f1.keep rfl, hR.f2.keep rfl, hR.f3.keep rfl, (fun _ => rfl), (fun _ => rfl), hR.f6.keep rfl, hR.f7.keep rfl⟩⟩
                    refine EachOf.cons [] rfl (by kernel_rfl) ?_ ?_
                    · rintro L A W ⟨v, rfl, hR⟩ hi hw K hK
                      have hk : L 8 = false := hR.w8.not hi rfl
                      have q0 := ((hR.st hk).cell (p := ⟨tb, 0, none⟩) LT0.out.2).trans LT0.out.1
                      have q1 := ((hR.st hk).cell (p := ⟨tb, 1, none⟩) LT1.out.2).trans LT1.out.1
                      go_simp
                      refine hK.out _ _ ?_
                      exact ⟨(fun jz => if jz = 84 then .agg #[.int .i64 xn, .int .i64 xd] else v jz), rfl, ⟨(fun h => hR.st (upd_false h)), hR.s1.keep rfl, hR.w2.keepM rfl (fun h j hj => upd_on (h j hj)), hR.w4.keepM rfl (fun h j hj => upd_on (h j hj)), hR.w5.keepM rfl (fun h j hj => upd_on (h j hj)), hR.w7.keepM rfl (fun h j hj => upd_on (h j hj)), hR.w8.keepM rfl (fun h j hj => upd_on (h j hj)), hR.f0.keep rfl, hR.f1.keep rfl, hR.f2.keep rfl, hR.f3.keep rfl, hR.f4.keep rfl, hR.f5.keep rfl, (fun _ => rfl), hR.f7.keep rfl⟩⟩
                    refine EachOf.cons [0, 5] rfl (by kernel_rfl) ?_ ?_
                    · rintro L A W ⟨v, rfl, hR⟩ hi hw K hK
                      have hk : L 8 = false := hR.w8.not hi rfl
                      have e0 := hR.f0 (hw 0 (by simp))
                      have e5 := hR.f5 (hw 5 (by simp))
                      simp only [e0, e5]
                      clear e0 e5
                      go_simp
                      refine hK.out _ _ ?_
                      exact ⟨(fun jz => if jz = 78 then .slice (some ⟨xb, 0, none⟩) (l) (l) else if jz = 83 then .int .i64 (pj : Int) else if jz = 85 then .pointer (some ⟨xb, pj * 2, none⟩) else v jz), rfl, ⟨(fun h => hR.st (upd_false h)), hR.s1.keep rfl, hR.w2.keepM rfl (fun h j hj => upd_on (h j hj)), hR.w4.keepM rfl (fun h j hj => upd_on (h j hj)), hR.w5.keepM rfl (fun h j hj => upd_on (h j hj)), (fun _ j hj => upd_on (hw j hj)), hR.w8.keepM rfl (fun h j hj => upd_on (h j hj)), (fun _ => rfl), hR.f1.keep rfl, hR.f2.keep rfl, hR.f3.keep rfl, hR.f4.keep rfl, (fun _ => rfl), hR.f6.keep rfl, (fun _ => rfl)⟩⟩
                    refine EachOf.cons [0, 1, 2, 3, 4, 5, 6, 7] rfl (by kernel_rfl) ?_ ?_
                    · rintro L A W ⟨v, rfl, hR⟩ hi hw K hK
                      have e7 := hR.f7 (hw 7 (by simp))
                      have e6 := hR.f6 (hw 6 (by simp))
                      simp only [e7, e6]
                      clear e7 e6
                      have q1 := (hR.st hi).cell (p := ⟨xb, pj * 2, none⟩) LS0.out.2
                      rw [LS0.out.1] at q1
                      have q2 := (hR.st hi).cell (p := ⟨xb, pj * 2 + 1, none⟩) LS1.out.2
                      rw [LS1.out.1] at q2
                      have q3 := (hR.st hi).frozen (p := ⟨xb, pj * 2, none⟩) LS0.out.2
                      rw [LF0.out] at q3
                      have q4 := (hR.st hi).frozen (p := ⟨xb, pj * 2 + 1, none⟩) LS1.out.2
                      rw [LF1.out] at q4
                      go_simp
                      refine hK.out _ _ ?_
                      exact ⟨(fun jz => if jz = 85 then .pointer (some ⟨xb, pj * 2, none⟩) else if jz = 84 then .agg #[.int .i64 xn, .int .i64 xd] else v jz), rfl, ⟨(fun h => by simp [upd_self] at h), (fun _ => ⟨W, hR.st hi, rfl⟩), hR.w2.keepM rfl (fun h j hj => upd_on (h j hj)), hR.w4.keepM rfl (fun h j hj => upd_on (h j hj)), hR.w5.keepM rfl (fun h j hj => upd_on (h j hj)), hR.w7.keepM rfl (fun h j hj => upd_on (h j hj)), (fun _ j hj => upd_on (hw j hj)), hR.f0.keep rfl, hR.f1.keep rfl, hR.f2.keep rfl, hR.f3.keep rfl, hR.f4.keep rfl, hR.f5.keep rfl, (fun _ => rfl), (fun _ => rfl)⟩⟩
                    exact EachOf.nil
                  rintro L A W10 ⟨v, rfl, hR⟩ hL
                  obtain ⟨W11, hb11, hW⟩ := hR.s1 (hL 8 (by simp))
                  have T5 : Hid (FrX W10 xb l (updF (nullA p E D c (i + 1)) c (1, 1)) ∧ Below W6.heap.size W6 W10) := by
                    refine ⟨?_, ?_⟩
                    · rw [hW]
                      refine ((HF9.out.on hb11).set pj hpl xn xd).congr fun m _ => ?_
                      show updF (updF (nullA p E D c i) (p i) (shF (-(E i c)) D)) c (1, 1) m = _
                      rw [HX.out, HPJ.out, upd_comm _ _ _ HNE.out]
                    · rw [hW]
                      exact ((below_on HK9.out hb11).setCell HXB.out _).setCell HXB.out _
                  clear hW hb11 W11 hR hL LT0 LT1 LP LQ HF9 HK9 LS0 LS1 LF0 LF1 HX HNE HPJ HT9
                  go_wp2_with fail
                  go_roundg (k - (i + 1))
                  case measure => omega
                  case rel => exact ⟨i + 1, rfl, rfl, by omega, T5⟩
                · have e : i = k := by omega
                  subst e
                  have hb8 : Below W1.heap.size W1 (W1.alloc (Obj.cells #[Value.slice (some ⟨xb, 0, none⟩) l l] 35)) := (Below.refl _ _).alloc (Nat.le_refl _) _
                  have T2 := Lib.hid (S.out.1.1.on (below_on T.out.2 hb8))
                  have T3 := Lib.hid (below_on S.out.1.2 (below_on T.out.2 hb8))
                  have T4 := Lib.hid (T.out.1.on hb8)
                  have T6 : Hid ((Value.slice va (frL i p c).length vc).ownBlock ≠ some xb) := fun e => HXN.out ((S.out.1.1.own.lt xb e).2)
                  have T7 := Lib.hid (S.out.2.of_false HT.out)
                  clear hb8 D1 T S
                  go_wp2_with (at_builtin; refine wpList_append_lies _ rfl _ _ 38 rfl W5.heap.size 35 i2 (.slice none 0 0) 1 24 Try.underlying38 hi2 hy0 hy1 hy2 rfl (by decide) _ _ _ rfl T2.out.own ⟨W1.heap.size, 0, none⟩ 1 1 [.slice (some ⟨xb, 0, none⟩) l l] rfl rfl (cell_one_new _ _ _) (by intro u hu; simp at hu; subst hu; rfl) (by omega) (by unfold maxLen; omega) (by omega) T3.out.size _ rfl ?_; intro g cap w9 hown hgrow hat hlt9)
                  have T9 : Hid ((NSt W5.heap.size w9 l i p E D (c + 1) (updN V c xb) (.slice (some ⟨g, 0, none⟩) ((frL i p c).length + 1) cap) ∧ Below W5.heap.size W5 w9) ∧ NxS i p (c + 1) x) :=
                    ⟨⟨T2.out.push (frL_out HT.out) T4.out T6.out rfl hown hgrow hat, below_grown T3.out T2.out.own hgrow⟩, T7.out⟩
                  clear hown hgrow hat hlt9 T2 T3 T4 T6 T7 q1
                  go_roundg (l - (c + 1))
                  case measure => omega
                  case rel => exact ⟨c + 1, x, _, rfl, rfl, rfl, by omega, T9⟩
    · have e : c = n := by omega
      subst e
      obtain ⟨va, vc, hvv⟩ := own_form S.out.1.1.own
      subst hvv
      go_wp2_with fail
      go_ret
      exact ⟨HB2.out.trans (S.out.1.2.mono HB2.out.size), k, p, E, D, V, _, HI.out.fin.1, HI.out.small, rfl, own_base S.out.1.1.own HB2.out.size, S.out.1.1.vec⟩

end Go.Proofs.Ytjggnmbdgagkoaa

namespace Go.Proofs.Ytjggnmbdgagkoaa
set_option linter.unusedVariables false
open Go.RowKit Go.Shelf

structure VecL (W : World) (ao : Option Addr) (m n : Nat) (r : Nat → Nat) (F : Nat → Nat → Int × Int) : Prop where
  top : 0 < m → ∃ g o, ao = some ⟨g, o, none⟩ ∧ g < W.heap.size ∧ ∀ i, i < m → W.cell? ⟨g, o + i, none⟩ = some (.slice (some ⟨r i, 0, none⟩) n n)
  row : ∀ i, i < m → FrX W (r i) n (F i)
theorem VecL.on {W W2 : World} {ao : Option Addr} {m n : Nat} {r : Nat → Nat} {F : Nat → Nat → Int × Int} (h : VecL W ao m n r F) (hb : Below W.heap.size W W2) : VecL W2 ao m n r F :=
  ⟨fun hm => by
    obtain ⟨g, o, e, hg, hc⟩ := h.top hm
    exact ⟨g, o, e, Nat.lt_of_lt_of_le hg hb.size, fun i hi => (hb.cell (p := ⟨g, o + i, none⟩) hg).trans (hc i hi)⟩, fun i hi => (h.row i hi).on hb⟩
theorem NSt.vecs {B0 : Nat} {W : World} {n k : Nat} {p : Nat → Nat} {E : Nat → Nat → Int} {D : Int} {i : Nat} {V : Nat → Nat} {vv : Value} (h : NSt B0 W n k p E D i V vv) :
    ∃ va vc, vv = .slice va (frL k p i).length vc ∧ VecL W va (frL k p i).length n (fun l => V ((frL k p i).getD l 0)) (fun l => updF (nullA p E D ((frL k p i).getD l 0) k) ((frL k p i).getD l 0) (1, 1)) := by
  rcases h.own.2 with ⟨h1, h2⟩ | ⟨g, cap, cur, hv, _, hg, _⟩
  · exact ⟨none, 0, by rw [h1, h2], fun hm => by omega, fun l hl => by omega⟩
  · refine ⟨_, cap, hv, fun hm => ⟨g, 0, rfl, (Array.getElem?_eq_some_iff.1 hg).1, fun l hl => ?_⟩, fun l hl => ?_⟩
    · have hc := h.own.cells (g := g) (by rw [hv]; rfl)
      have e : ∀ x, (⟨g, 0, none⟩ : Addr).add x = ⟨g, x, none⟩ := fun x => by unfold Addr.add; split <;> simp_all
      have c0 := hc l (.slice (some ⟨V ((frL k p i).getD l 0), 0, none⟩) n n) (by simp [List.getElem?_eq_getElem hl])
      rw [e] at c0
      simp only [Nat.zero_add]
      exact c0
    · have hm : (frL k p i).getD l 0 ∈ frL k p i := by
        rw [List.getD_eq_getElem?_getD, List.getElem?_eq_getElem hl]
        exact List.getElem_mem hl
      exact (h.vec _ hm).1

set_option maxHeartbeats 8000000 in
theorem eqV_any (fn : FuncId) (a1 a2 : Option Addr) (c1 c2 m n : Nat) (r1 r2 : Nat → Nat) (F1 F2 : Nat → Nat → Int × Int) (w : World) (eg : ∀ args w, (callFunc fn args).run Try.prog w = .ok (.enter fn args) w)
    (CP : ∀ i, i < m → ∀ W, Below w.heap.size w W → Calls Try.prog fn #[.slice (some ⟨r1 i, 0, none⟩) n n, .slice (some ⟨r2 i, 0, none⟩) n n] W fun e w' => e = .returned (.bool true) ∧ Below W.heap.size W w')
    (h1 : VecL w a1 m n r1 F1) (h2 : VecL w a2 m n r2 F2) (hm : m ≤ 1000) :
    Calls Try.prog 23 #[.slice a1 m c1, .slice a2 m c2, .func (.func fn) #[] #[]] w fun e w' => e = .returned (.bool true) ∧ Below w.heap.size w w' := by
  have HP := Lib.hid CP
  have H1 := Lib.hid h1
  have H2 := Lib.hid h2
  clear CP h1 h2
  go_enter Try.func23, Try.ntmps23
  go_wp2_with fail
  have S0 : Hid (Below w.heap.size w w) := Below.refl _ _
  go_loopg [17] m (fun g s17 wx => ∃ i : Nat, s17 = .int .i64 i ∧ g = m - i ∧ i ≤ m ∧ Hid (Below w.heap.size w wx))
  case atStart => exact ⟨0, rfl, rfl, Nat.zero_le _, S0⟩
  case round =>
    clear S0
    obtain ⟨i, rfl, rfl, hi, S⟩ := hrel
    rename World => W1
    by_cases hlt : i < m
    · have wk : IntKind.i64.wrap ((i : Int) + 1) = ((i + 1 : Nat) : Int) := by rw [IntWalk.i64_in _ (by omega)]; omega
      obtain ⟨g1, o1, rfl, k1, t1⟩ := H1.out.top (by omega)
      obtain ⟨g2, o2, rfl, k2, t2⟩ := H2.out.top (by omega)
      have p1 := (S.out.cell (p := ⟨g1, o1 + i, none⟩) k1).trans (t1 i hlt)
      have p2 := (S.out.cell (p := ⟨g2, o2 + i, none⟩) k2).trans (t2 i hlt)
      have CI := Lib.hid (HP.out i hlt W1 S.out)
      clear t1 t2 k1 k2
      go_wp2_with fail
      (with_reducible refine ((CI.out).mono ?_))
      rintro e w2 ⟨rfl, hb⟩
      have T := Lib.hid (below_on S.out hb)
      clear CI p1 p2 hb S
      go_wp2_with fail
      go_roundg (m - (i + 1))
      case measure => omega
      case rel => exact ⟨i + 1, rfl, rfl, by omega, T⟩
    · have e : i = m := by omega
      subst e
      go_wp2_with fail
      go_ret
      exact ⟨rfl, S.out⟩

theorem frL_same {k k' : Nat} {p p' : Nat → Nat} (i : Nat) (e : k = k') (h : ∀ l, l < k → p l = p' l) : frL k p i = frL k' p' i := by
  subst e
  unfold frL
  congr 1
  funext c
  congr 1
  refine decide_eq_decide.2 ⟨fun ⟨l, hl, q⟩ => ⟨l, hl, by rw [← h l hl]; exact q⟩, fun ⟨l, hl, q⟩ => ⟨l, hl, by rw [h l hl]; exact q⟩⟩
theorem nullA_same {R n k k' : Nat} {M : Nat → Nat → Int} {p p' : Nat → Nat} {E E' : Nat → Nat → Int} {D D' : Int} (h : FinW R n M k p E D) (h' : FinW R n M k' p' E' D') (b : (-1152921504606846976 ≤ D ∧ D ≤ 1152921504606846976) ∧ ∀ i j, i < R → j < n → -1152921504606846976 ≤ E i j ∧ E i j ≤ 1152921504606846976) (b' : (-1152921504606846976 ≤ D' ∧ D' ≤ 1152921504606846976) ∧ ∀ i j, i < R → j < n → -1152921504606846976 ≤ E' i j ∧ E' i j ≤ 1152921504606846976) (c : Nat) (hc : c < n) :
    nullA p E D c k = nullA p' E' D' c k' := by
  obtain ⟨ek, ep⟩ := h.uniq h' (.refl _ _ _) (.refl _ _ _)
  subst ek
  have sh := h.shr h' (.refl _ _ _) ep
  have key : ∀ i, i ≤ k → nullA p E D c i = nullA p' E' D' c i := by
    intro i
    induction i with
    | zero => intro _; rfl
    | succ i ih =>
      intro hi
      have kR := h.kR
      have b1 := b.2 i c (by omega) hc
      have b2 := b'.2 i c (by omega) hc
      show updF (nullA p E D c i) (p i) (shF (-(E i c)) D) = updF (nullA p' E' D' c i) (p' i) (shF (-(E' i c)) D')
      have s1 := sh i c (by omega) hc
      rw [ih (by omega), ep i (by omega), shF_same (a := -(E i c)) (a' := -(E' i c)) h.nz h'.nz (by omega) b.1 (by omega) b'.1 (by rw [Int.mul_neg, Int.mul_neg, s1])]
  exact key k (Nat.le_refl _)

/-- The two null spaces are given by equal vectors. -/
theorem eqV_nulls (B0 B1 : Nat) (R n k k' : Nat) (M : Nat → Nat → Int) (p p' : Nat → Nat) (E E' : Nat → Nat → Int) (D D' : Int) (V V' : Nat → Nat) (vv vv' : Value) (w : World) (h : FinW R n M k p E D) (h' : FinW R n M k' p' E' D') (b : (-1152921504606846976 ≤ D ∧ D ≤ 1152921504606846976) ∧ ∀ i j, i < R → j < n → -1152921504606846976 ≤ E i j ∧ E i j ≤ 1152921504606846976) (b' : (-1152921504606846976 ≤ D' ∧ D' ≤ 1152921504606846976) ∧ ∀ i j, i < R → j < n → -1152921504606846976 ≤ E' i j ∧ E' i j ≤ 1152921504606846976)
    (N : NSt B0 w n k p E D n V vv) (N' : NSt B1 w n k' p' E' D' n V' vv') (hn : n ≤ 12) :
    Calls Try.prog 23 #[vv, vv', .func (.func 25) #[] #[]] w fun e w' => e = .returned (.bool true) ∧ Below w.heap.size w w' := by
  have eg : ∀ args w, (callFunc 25 args).run Try.prog w = .ok (.enter 25 args) w := enters_of Try.func25 (by kernel_rfl) rfl
  obtain ⟨ek, ep⟩ := h.uniq h' (.refl _ _ _) (.refl _ _ _)
  have ef := frL_same n ek ep
  obtain ⟨va, vc, rfl, H1⟩ := N.vecs
  obtain ⟨va', vc', rfl, H2⟩ := N'.vecs
  have hlen := frL_len k n p
  have hmem : ∀ i, i < (frL k p n).length → (frL k p n).getD i 0 < n := fun i hi => frL_lt (by
    rw [List.getD_eq_getElem?_getD, List.getElem?_eq_getElem hi]
    exact List.getElem_mem hi)
  rw [← ef] at H2 ⊢
  refine eqV_any _ va va' vc vc' _ n _ _ _ _ w eg (fun i hi W hb => ?_) H1 H2 (by omega)
  have x1 := ((H1.row i hi).on hb).frs
  have x2 := ((H2.row i hi).on hb).frs
  have hb1 := ((H1.row i hi).on hb).hb
  have hb2 := ((H2.row i hi).on hb).hb
  have es := nullA_same h h' b b' _ (hmem i hi)
  rw [← es] at x2
  have CE := equalF_same (some ⟨V ((frL k p n).getD i 0), 0, none⟩) (some ⟨V' ((frL k p n).getD i 0), 0, none⟩) n n n _ _ W (fun _ => ⟨_, 0, rfl, hb1, x1⟩) (fun _ => ⟨_, 0, rfl, hb2, x2⟩) (by simp) (by simp) (by omega)
  rw [decide_eq_true rfl] at CE
  exact CE

theorem frX_frl {W : World} {xb n : Nat} {X : Nat → Int × Int} (h : FrX W xb n X) : FrL W (some ⟨xb, 0, none⟩) ((List.range n).map X) := fun hl => ⟨xb, 0, rfl, h.hb, h.frs⟩
/-- The reference's solution is the program's. -/
theorem SolS.same {R n : Nat} {Z : Nat → Nat → Int} {f : Nat → Int} {W W0 W' : World} {xa : Option Addr} {xn xc : Nat} {ee : Int} {e : Ending} (h : SolS R n Z f W xa xn xc ee) (hf : rngF R f) (hR : RSoP R n (extE n Z f) W0 W' e) (hn : n ≤ 12) (hb : Below W.heap.size W W') :
    ∃ ao cp, e = .returned (.tuple #[.slice ao xn cp, .int .i64 ee]) ∧ ∃ X : List (Int × Int), X.length = xn ∧ FrL W' xa X ∧ FrL W' ao X ∧ xn ≤ 12 := by
  rcases h with ⟨h, _⟩ | ⟨_, k, p, E, D, hF, hc⟩
  · exact absurd hf h
  obtain ⟨k', p', E', D', hF', hc'⟩ := hR
  obtain ⟨ek, ep⟩ := hF.w.uniq hF' (.refl _ _ _) (.refl _ _ _)
  subst ek
  have hx : (∃ l, l < k ∧ p l = n) ↔ (∃ l, l < k ∧ p' l = n) := ⟨fun ⟨l, hl, q⟩ => ⟨l, hl, by rw [← ep l hl]; exact q⟩, fun ⟨l, hl, q⟩ => ⟨l, hl, by rw [ep l hl]; exact q⟩⟩
  have nil : ∀ ao, FrL W' ao [] := fun ao hl => by simp at hl
  rcases hc with ⟨g, rfl, rfl, rfl, rfl⟩ | ⟨g, gk, rfl, rfl, rfl, rfl⟩ | ⟨g, gk, rfl, xb, rfl, rfl, rfl, hX⟩
  · rcases hc' with ⟨q, rfl⟩ | ⟨q, _⟩ | ⟨q, _⟩
    · exact ⟨none, 0, rfl, [], rfl, nil _, nil _, by omega⟩
    · exact absurd (hx.1 g) q
    · exact absurd (hx.1 g) q
  · rcases hc' with ⟨q, _⟩ | ⟨q, qk, rfl⟩ | ⟨q, qk, _⟩
    · exact absurd (hx.2 q) g
    · exact ⟨none, 0, rfl, [], rfl, nil _, nil _, by omega⟩
    · omega
  · rcases hc' with ⟨q, _⟩ | ⟨q, qk, _⟩ | ⟨q, qk, hb', v, rfl, hO⟩
    · exact absurd (hx.2 q) g
    · omega
    · obtain ⟨ao, cp, rfl, hI⟩ := celG_own hO
      have kR := hF.kR
      have sh := hF.w.shr hF' (.refl _ _ _) ep
      have es : ((List.range xc).map fun l => shF (E l xc) D) = (List.range xc).map fun l => shF (E' l xc) D' := by
        refine List.map_congr_left fun l hl => ?_
        have hl' : l < xc := by simpa using hl
        exact shF_same hF.nz hb'.1 (hF.dE l xc (by omega) (by omega)) hF.dD (hb'.2.2 l hl') hb'.2.1 (sh l xc (by omega) (by omega))
      refine ⟨ao, cp, rfl, (List.range xc).map fun l => shF (E l xc) D, by simp, frX_frl (hX.on hb), ?_, hn⟩
      rw [es]
      intro hl
      obtain ⟨g0, o0, q1, q2, q3⟩ := hI (by simpa using hl)
      refine ⟨g0, o0, q1, q2, fun m hm => ?_⟩
      have hm' : m < xc := by simpa using hm
      simp only [List.getElem_map, List.getElem_range]
      exact q3 m hm'

end Go.Proofs.Ytjggnmbdgagkoaa

namespace Go.Proofs.Ytjggnmbdgagkoaa
set_option linter.unusedVariables false
open Go.RowKit Go.Shelf

/-- What Solve returns for a valid matrix. -/
def SolN (R n nr : Nat) (Z : Nat → Nat → Int) (f : Nat → Int) (W : World) (xa : Option Addr) (xn xc : Nat) (ee : Int) : Prop :=
  (nr ≠ R ∧ xa = none ∧ xn = 0 ∧ xc = 0 ∧ ee = 3) ∨ (nr = R ∧ SolS R n Z f W xa xn xc ee)
theorem SolN.on {R n nr : Nat} {Z : Nat → Nat → Int} {f : Nat → Int} {W W2 : World} {xa : Option Addr} {xn xc : Nat} {ee : Int} (h : SolN R n nr Z f W xa xn xc ee) (hb : Below W.heap.size W W2) : SolN R n nr Z f W2 xa xn xc ee := by
  rcases h with h | ⟨e, h⟩
  · exact .inl h
  · exact .inr ⟨e, h.on hb⟩
theorem Solve_N (ma : Option Addr) (R mc : Nat) (Ra : Nat → Option Addr) (Ln Ka : Nat → Nat) (Z : Nat → Nat → Int) (ra : Option Addr) (nr rc : Nat) (f : Nat → Int) (w : World) (n : Nat) (hn : Ln 0 = n) (hM : AMat w ma R Ra Ln Ka Z) (hv : vMP R Ln Z) (hr : IRow w ra nr f) (hc : nr ≤ rc) (hc2 : rc ≤ 9223372036854775807) :
    Calls Try.prog 21 #[.slice ma R mc, .slice ra nr rc] w fun e w' => Below w.heap.size w w' ∧ ∃ (xa : Option Addr) (xn xc : Nat) (ee : Int), e = .returned (.tuple #[.slice xa xn xc, .int .i64 ee]) ∧ SolN R n nr Z f w' xa xn xc ee := by
  by_cases h : nr = R
  · rw [h] at hr hc ⊢
    refine (Solve_S ma R mc Ra Ln Ka Z ra rc f w n hn hM hv hr hc hc2).mono ?_
    rintro e w' ⟨hb, xa, xn, xc, ee, he, hS⟩
    exact ⟨hb, xa, xn, xc, ee, he, .inr ⟨rfl, hS⟩⟩
  · refine (Solve_size ma R mc Ra Ln Ka Z ra nr rc w hM hv h).mono ?_
    rintro e w' ⟨he, hb⟩
    exact ⟨hb, none, 0, 0, 3, he, .inl ⟨h, rfl, rfl, rfl, rfl⟩⟩

set_option maxRecDepth 100000 in
set_option maxHeartbeats 32000000 in
theorem solves_walk (ma : Option Addr) (R mc : Nat) (Ra : Nat → Option Addr) (Ln Ka : Nat → Nat) (Z : Nat → Nat → Int) (ra : Option Addr) (nr rc : Nat) (f : Nat → Int) (w : World) (hM : AMat w ma R Ra Ln Ka Z) (hR : R ≤ 9223372036854775807) (hr : IRow w ra nr f) (hc : nr ≤ rc) (hc2 : rc ≤ 9223372036854775807) :
    Calls Try.prog 4 #[.slice ma R mc, .slice ra nr rc] w fun e w' => e = .returned (.bool true) ∧ Below w.heap.size w w' := by
  have HM := Lib.hid hM
  have HRr := Lib.hid hr
  have CA := Lib.hid (lawake_any w)
  have CW0 := fun W h => lrValid_any ma R mc Ra Ln Ka Z W h hR
  clear hM hr
  go_enter Try.func4, Try.ntmps4
  go_wp2_with fail
  (with_reducible refine ((CA.out).mono ?_))
  rintro e w1 ⟨rfl, hb1⟩
  have HB1 := Lib.hid hb1
  clear CA hb1
  obtain ⟨tl, htl⟩ : ∃ v, lgB R Ln = v := ⟨_, rfl⟩
  have CL0 := long_any ma mc R Ra Ln Ka Z w1 (HM.out.on HB1.out) hR
  rw [htl] at CL0
  have CL := Lib.hid CL0
  clear CL0 htl
  go_wp2_with fail
  (with_reducible refine ((CL.out).mono ?_))
  rintro e w2 ⟨rfl, hb2⟩
  have HB2 := Lib.hid (below_on HB1.out hb2)
  clear CL hb2 HB1
  cases tl
  case true =>
    go_wp2_with fail
    go_ret
    exact ⟨rfl, HB2.out⟩
  case false =>
    by_cases h20 : 20 < nr
    · have t1 : (20 : Int) < (nr : Int) := by omega
      go_wp2_with fail
      go_ret
      exact ⟨rfl, HB2.out⟩
    have t20 : decide ((20 : Int) < (nr : Int)) = false := decide_eq_false (by omega)
    have h20' : nr ≤ 20 := by omega
    by_cases hv : vMP R Ln Z
    case neg =>
      simp only [vM_no hv] at CW0
      have CW := fun W h => Lib.hid (CW0 W h)
      have CS := fun W h => Lib.hid (Solve_bad ma R mc Ra Ln Ka Z ra nr rc W h hR hv)
      have CN := fun W h => Lib.hid (Null_bad ma R mc Ra Ln Ka Z W h hR hv)
      clear CW0 hv
      go_wp2_with fail
      (with_reducible refine (((CS _ (HM.out.on HB2.out)).out).mono ?_))
      rintro e w3 ⟨rfl, hb3⟩
      have HB3 := Lib.hid (below_on HB2.out hb3)
      clear CS hb3 HB2 t20
      go_wp2_with fail
      (with_reducible refine (((CN _ (HM.out.on HB3.out)).out).mono ?_))
      rintro e w4 ⟨rfl, hb4⟩
      have HB4 := Lib.hid (below_on HB3.out hb4)
      clear CN hb4 HB3
      go_wp2_with fail
      (with_reducible refine (((CW _ (HM.out.on HB4.out)).out).mono ?_))
      rintro e w5 ⟨rfl, hb5⟩
      have HB5 := Lib.hid (below_on HB4.out hb5)
      clear CW hb5 HB4
      go_wp2_with fail
      go_ret
      exact ⟨rfl, HB5.out⟩
    simp only [vM_true.2 hv] at CW0
    have CW := fun W h => Lib.hid (CW0 W h)
    have HV := Lib.hid hv
    obtain ⟨n, hn⟩ : ∃ n, Ln 0 = n := ⟨_, rfl⟩
    have HN := Lib.hid hn
    have hR0 : 0 < R := hv.1
    have hR6 : R ≤ 6 := hv.2.1
    have hn0 : 0 < n := by rw [← hn]; have := hv.2.2.1; omega
    have hn12 : n ≤ 12 := by rw [← hn]; exact hv.2.2.2.1
    have HZB : Hid (∀ i j, i < R → j < n → -32 ≤ Z i j ∧ Z i j ≤ 32) := fun i j hi hj => (hv.2.2.2.2 i hi).2 j (by rw [(hv.2.2.2.2 i hi).1, hn]; exact hj)
    obtain ⟨mb, mo, hma, hMt⟩ := HM.out.mat hv
    rw [hn] at hMt
    subst hma
    have HMT := Lib.hid hMt
    have CS := fun W h h2 => Lib.hid (Solve_N (some ⟨mb, mo, none⟩) R mc Ra Ln Ka Z ra nr rc f W n HN.out h HV.out h2 hc hc2)
    have CN := fun W h => Lib.hid (Null_ok (some ⟨mb, mo, none⟩) R mc Ra Ln Ka Z W n HN.out h HV.out)
    have CRN := fun W h => Lib.hid (refNull_any mb mo mc R n (fun i => adB (Ra i)) (fun i => adO (Ra i)) Ka Z W h hR0 hR6 hn0 hn12 HZB.out)
    clear hv hn CW0 hMt
    go_wp2_with fail
    (with_reducible refine (((CS _ (HM.out.on HB2.out) (HRr.out.on HB2.out)).out).mono ?_))
    rintro e w3 ⟨hb3, xa, xn, xc, ee, rfl, hX⟩
    have HB3 := Lib.hid (below_on HB2.out hb3)
    have HX3 := Lib.hid hX
    clear CS hb3 hX HB2 t20
    go_wp2_with fail
    (with_reducible refine (((CN _ (HM.out.on HB3.out)).out).mono ?_))
    rintro e w4 ⟨hb4, k, p, E, D, V, vv, hF, rfl, hN⟩
    obtain ⟨va, vc, hvv⟩ := own_form hN.own
    subst hvv
    have HB4 := Lib.hid (below_on HB3.out hb4)
    have HX4 := Lib.hid (HX3.out.on hb4)
    have HN4 := Lib.hid hN
    have HF := Lib.hid hF
    clear CN hb4 hN hF HB3 HX3
    go_wp2_with fail
    (with_reducible refine (((CW _ (HM.out.on HB4.out)).out).mono ?_))
    rintro e w5 ⟨rfl, hb5⟩
    have HB5 := Lib.hid (below_on HB4.out hb5)
    have HX5 := Lib.hid (HX4.out.on hb5)
    have HN5 := Lib.hid (HN4.out.on hb5)
    clear CW hb5 HB4 HX4 HN4
    go_wp2_with fail
    (with_reducible refine (((CRN _ (HMT.out.on HB5.out)).out).mono ?_))
    rintro e w6 ⟨hb6, k2, p2, E2, D2, V2, vv2, hF2, hd2, rfl, hN2⟩
    have CE := Lib.hid (eqV_nulls _ _ R n k k2 Z p p2 E E2 D D2 V V2 _ vv2 w6 HF.out.w hF2 ⟨HF.out.dD, HF.out.dE⟩ hd2 (HN5.out.on hb6) hN2 hn12)
    obtain ⟨va2, vc2, hvv⟩ := own_form hN2.own
    subst hvv
    have HB6 := Lib.hid (below_on HB5.out hb6)
    have HX6 := Lib.hid (HX5.out.on hb6)
    clear CRN hb6 hF2 hd2 hN2 HB5 HX5 HN5 HF
    go_wp2_with fail
    (with_reducible refine ((CE.out).mono ?_))
    rintro e w7 ⟨rfl, hb7⟩
    have HB7 := Lib.hid (below_on HB6.out hb7)
    have HX7 := Lib.hid (HX6.out.on hb7)
    clear CE hb7 HB6 HX6
    by_cases hnr : nr = R
    case neg =>
      have t1 : ¬ ((nr : Int) = (R : Int)) := by omega
      have t2 : ((nr : Int) == (R : Int)) = false := by simpa using t1
      have t3 : ((nr : Int) != (R : Int)) = true := bne_iff_ne.2 t1
      rcases HX7.out with ⟨_, rfl, rfl, rfl, rfl⟩ | ⟨e, _⟩
      · clear HX7
        go_wp2_with fail
        go_ret
        exact ⟨rfl, HB7.out⟩
      · exact absurd e hnr
    subst hnr
    rcases HX7.out with ⟨e, _⟩ | ⟨_, hS⟩
    · exact absurd rfl e
    have HS7 := Lib.hid hS
    clear HX7 hS
    obtain ⟨rg, ro, hra, _, _⟩ := HRr.out hR0
    subst hra
    obtain ⟨tw, htw⟩ : ∃ v, wB nr f 67108864 = v := ⟨_, rfl⟩
    have CR0 := refRight_any (some ⟨rg, ro, none⟩) nr rc f w7 (HRr.out.on HB7.out) h20'
    rw [htw] at CR0
    have CR := Lib.hid CR0
    have HW := Lib.hid htw
    clear CR0 htw
    go_wp2_with fail
    (with_reducible refine ((CR.out).mono ?_))
    rintro e w8 ⟨rfl, hb8⟩
    have HB8 := Lib.hid (below_on HB7.out hb8)
    have HS8 := Lib.hid (HS7.out.on hb8)
    clear CR hb8 HB7 HS7
    cases tw
    case false =>
      rcases HS8.out with ⟨_, rfl, rfl, rfl, rfl⟩ | ⟨hrg, _⟩
      · clear HS8
        go_wp2_with fail
        go_ret
        exact ⟨rfl, HB8.out⟩
      · have ht : wB nr f 67108864 = true := decide_eq_true (show ∀ l, l < nr → -67108864 ≤ f l ∧ f l ≤ 67108864 from hrg)
        exact absurd (HW.out.symm.trans ht) (by decide)
    case true =>
      have HRG : Hid (rngF nr f) := by
        have h := HW.out
        unfold wB at h
        exact (of_decide_eq_true h : ∀ l, l < nr → -67108864 ≤ f l ∧ f l ≤ 67108864)
      have CV := Lib.hid (refSolve_any mb mo mc nr n rg ro rc (fun i => adB (Ra i)) (fun i => adO (Ra i)) Ka Z f w8 (HMT.out.on HB8.out) hR0 hR6 hn0 hn12 HZB.out (HRr.out.on HB8.out) HRG.out)
      go_wp2_with fail
      (with_reducible refine ((CV.out).mono ?_))
      rintro e w9 ⟨hb9, hP⟩
      obtain ⟨ao, cp, he, X, hl, hX1, hX2, h12⟩ := HS8.out.same HRG.out hP hn12 hb9
      subst he
      have CE0 := equalF_same xa ao xc cp xn X X w9 hX1 hX2 hl hl (by omega)
      rw [decide_eq_true rfl] at CE0
      have CE := Lib.hid CE0
      have HB9 := Lib.hid (below_on HB8.out hb9)
      clear CV hb9 hP HS8 HB8 CE0 hX1 hX2 hl
      go_wp2_with fail
      (with_reducible refine ((CE.out).mono ?_))
      rintro e w10 ⟨rfl, hb10⟩
      have HB10 := Lib.hid (below_on HB9.out hb10)
      clear CE hb10 HB9
      go_wp2_with fail
      go_ret
      exact ⟨rfl, HB10.out⟩

end Go.Proofs.Ytjggnmbdgagkoaa
