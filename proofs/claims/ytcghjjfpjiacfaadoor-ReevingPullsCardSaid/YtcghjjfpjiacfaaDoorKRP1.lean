/- Layer 10's reference: pulls, parts, weights, hauled ropes. -/
import Derived.Test.YtcghjjfpjiacfaaDoorKLA
namespace Go.Proofs.YtcghjjfpjiacfaaDoor
open Go.ChangeShapes Go.WideShapes Go.ChangeAt Go.RowKit Go.Joins Go.Deep Go.Shelf
set_option linter.unusedVariables false

/-- An own list of integers. -/
def StI (W : World) (base : Nat) (v : Value) (n : Nat) (f : Nat → Int) : Prop := W.ownsRow base 3 1 v n ((List.range n).map fun j => Value.int .i64 (f j))
theorem StI.start (W : World) (base : Nat) (f : Nat → Int) : StI W base (.slice none 0 0) 0 f := ⟨rfl, .inl ⟨rfl, rfl⟩⟩
theorem StI.on {W W2 : World} {base n : Nat} {v : Value} {f : Nat → Int} (h : StI W base v n f) (hb : Below W.heap.size W W2) : StI W2 base v n f := own_only h (Only.of_below (S := fun _ => False) hb) (fun _ _ q => q)
theorem wpList_app_int {P : Program} (w : World) {ops : Array Oper} {rest : List Oper} {o : Oper} {a : Act} {Q : Exit → Act → World → Prop} (hP : P = Tryd.prog)
    (hgd : o.guard = none) (s x : Operand) (ho : o.op = .call { callee := .builtin .append, args := #[s, x], argTypes := #[43, 43] })
    (base n : Nat) (v : Value) (f : Nat → Int) (hs : a.eval s = v) (hown : StI w base v n f) (ad : Addr) (c : Nat) (hx : a.eval x = .slice (some ad) 1 c) (hc : w.cell? ad = some (.int .i64 (f n))) (hn : n < 1000) (hbase : base ≤ w.heap.size)
    (h : ∀ g cap w', StI w' base (.slice (some ⟨g, 0, none⟩) (n + 1) cap) (n + 1) f → w.grownBy w' v.ownBlock → wpList P ops Q rest (a.put o.dst (.slice (some ⟨g, 0, none⟩) (n + 1) cap)) w') : wpList P ops Q (o :: rest) a w := by
  subst hP
  obtain ⟨i0, hi0, hz0, hz1, hz2⟩ := info_parts (show (Tryd.prog.info? 3).map (fun i => (i.zero, i.size, i.bytes)) = some (some (Value.int IntKind.i64 0), 1, 8) by kernel_rfl)
  refine wpList_append_lies w hgd s x 43 ho base 3 i0 (.int .i64 0) 1 8 Tryd.underlying43 hi0 hz0 hz1 hz2 rfl (by decide) v n _ hs hown ad 1 c [.int .i64 (f n)] hx rfl (fun j u hu => ?_) (by intro u hu; simp at hu; subst hu; rfl) (by omega) (by unfold maxLen; omega) (by omega) hbase _ rfl ?_
  · cases j with
    | zero =>
      simp at hu
      subst hu
      rw [show ad.add 0 = ad by unfold Addr.add; split <;> simp_all]
      exact hc
    | succ j => simp at hu
  · intro g cap w' h2 h3 h4 h5
    refine h g cap w' ?_ h3
    unfold StI
    rw [List.range_succ, List.map_append]
    exact h2
theorem StI.irow {W : World} {base n : Nat} {ra : Option Addr} {rc : Nat} {f : Nat → Int} (h : StI W base (.slice ra n rc) n f) : IRow W ra n f := fun hn => by
  obtain ⟨g, cp, hv, hr⟩ := own_nrow h hn
  injection hv with e1 _ _
  subst e1
  exact hr.irow hn
set_option maxHeartbeats 4000000 in
theorem rPull_any (nm : ByteArray) (ha : Option Addr) (n hc : Nat) (hs : Nat → Hld) (hd : Bool) (x : ByteArray) (w : World) (kn : ByteArray → Bool) (hr : RopOk kn ⟨nm, ha, n, hc, hs, hd⟩) (hl : HolR w ha n hs) :
    Calls Tryd.prog 77 #[.agg #[.string nm, .slice ha n hc, .bool hd], .string x] w fun e w' => e = .returned (.int .i64 (pul ⟨nm, ha, n, hc, hs, hd⟩ x n)) ∧ Below w.heap.size w w' := by
  obtain ⟨w1, hw1⟩ : ∃ W, W = w.alloc (Obj.cells #[Value.string nm, .slice ha n hc, .bool hd] 58) := ⟨_, rfl⟩
  obtain ⟨xb, hxb⟩ : ∃ x, x = w.heap.size := ⟨_, rfl⟩
  have hC : C3 w1 xb (.string nm) (.slice ha n hc) (.bool hd) := by rw [hw1, hxb]; exact C3.new _ _ _ _ _
  have hB : Below w.heap.size w w1 := by rw [hw1]; exact (Below.refl _ _).alloc (Nat.le_refl _) _
  have HB := Lib.hid hB
  have hn10 : n ≤ 10 := hr.l10
  have hn2 : 2 ≤ n := hr.l2
  have hF : ∀ i, i < n → -2 ≤ (hs i).pulls ∧ (hs i).pulls ≤ 2 := fun i hi => hld_pulls (hr.hs i hi)
  have hbd : ∀ i, i ≤ n → -(2 * (i : Int)) ≤ pul ⟨nm, ha, n, hc, hs, hd⟩ x i ∧ pul ⟨nm, ha, n, hc, hs, hd⟩ x i ≤ 2 * (i : Int) := fun i hi => pul_bd hr x i hi
  have hst : ∀ i, pul ⟨nm, ha, n, hc, hs, hd⟩ x (i + 1) = pul ⟨nm, ha, n, hc, hs, hd⟩ x i + (if (hs i).blk = x then (hs i).pulls else 0) := fun _ => rfl
  have h00 : pul ⟨nm, ha, n, hc, hs, hd⟩ x 0 = 0 := rfl
  obtain ⟨f, hf⟩ : ∃ f, pul ⟨nm, ha, n, hc, hs, hd⟩ x = f := ⟨_, rfl⟩
  rw [hf] at hbd h00
  rw [hf] at hst
  rw [hf]
  have HF := Lib.hid (And.intro hF (And.intro hbd (And.intro hst h00)))
  obtain ⟨b, o, hae, hbk, hck⟩ := (hl.on hB) (by omega)
  rw [hae] at hC hw1
  rw [hae]
  have c1 := hC.c1
  have HT := Lib.hid hck
  clear hr hl hC hB hF hbd hst h00 hf hae hck
  go_enter Tryd.func77, Tryd.ntmps77
  go_upto_region 1 with fail
  rw [← hxb, ← hw1]
  clear hxb hw1
  go_wp2_with fail
  go_loopg [5, 6] n (fun mm s5 s6 wx => ∃ i : Nat, s5 = .int .i64 (f i) ∧ s6 = .int .i64 (i : Int) ∧ mm = n - i ∧ i ≤ n ∧ wx = w1)
  case atStart => exact ⟨0, by rw [HF.out.2.2.2], rfl, rfl, Nat.zero_le _, rfl⟩
  case round =>
    obtain ⟨i, rfl, rfl, rfl, hi, rfl⟩ := hrel
    by_cases hlt : i < n
    · have li : (i : Int) < (n : Int) := by omega
      have wi : IntKind.i64.wrap ((i : Int) + 1) = ((i + 1 : Nat) : Int) := by rw [IntWalk.i64_in _ (by omega)]; omega
      have p1 := (HT.out i hlt).1
      have p2 := (HT.out i hlt).2.1
      have hst := HF.out.2.2.1 i
      have b1 := HF.out.1 i hlt
      have b2 := HF.out.2.1 i hi
      obtain ⟨y, hy⟩ : ∃ y, (hs i).blk = y := ⟨_, rfl⟩
      obtain ⟨z, hz⟩ : ∃ z, (hs i).pulls = z := ⟨_, rfl⟩
      rw [hy] at p1 hst
      rw [hz] at p2 hst b1
      clear hy hz
      by_cases e : y = x
      · subst e
        rw [if_pos rfl] at hst
        have wp : IntKind.i64.wrap (f i + z) = f i + z := IntWalk.i64_in _ (by omega)
        have HST := Lib.hid hst
        clear hst b1 b2
        go_wp2_with fail
        go_roundg (n - (i + 1))
        case measure => omega
        case rel => exact ⟨i + 1, by rw [HST.out], rfl, rfl, by omega, rfl⟩
      · rw [if_neg e, Int.add_zero] at hst
        have e2 := str_neq e
        have HST := Lib.hid hst
        clear hst b1 b2
        go_wp2_with fail
        go_roundg (n - (i + 1))
        case measure => omega
        case rel => exact ⟨i + 1, by rw [HST.out], rfl, rfl, by omega, rfl⟩
    · have li : ¬ (i : Int) < (n : Int) := by omega
      have e : n = i := by omega
      subst e
      go_wp2_with fail
      go_ret
      exact ⟨rfl, HB.out⟩
set_option maxHeartbeats 8000000 in
theorem rParts_any (s : Sys) (x : ByteArray) (q : Nat) (w : World) (hs : s.At w) (hsm : SysSm s) (ho : SysOk s) (hx : s.bn q = x) :
    Calls Tryd.prog 32 #[.agg #[.slice s.ba s.nb s.bc, .slice s.ra s.nr s.rc], .string x] w fun e w' => e = .returned (.int .i64 (prt s q s.nr)) ∧ Below w.heap.size w w' := by
  have hb9 := hsm.b
  have hr9 := hsm.r
  have hb1 := ho.b1
  have hr1 := ho.r1
  obtain ⟨w1, hw1⟩ : ∃ W, W = w.alloc (Obj.cells #[Value.slice s.ba s.nb s.bc, .slice s.ra s.nr s.rc] 36) := ⟨_, rfl⟩
  obtain ⟨xb, hxb⟩ : ∃ x, x = w.heap.size := ⟨_, rfl⟩
  have hC : C2 w1 xb (.slice s.ba s.nb s.bc) (.slice s.ra s.nr s.rc) := by rw [hw1, hxb]; exact C2.new _ _ _ _
  have hB : Below w.heap.size w w1 := by rw [hw1]; exact (Below.refl _ _).alloc (Nat.le_refl _) _
  have HB := Lib.hid hB
  obtain ⟨rb, ro, hre, hrb, hrc⟩ := (hs.on hB).r.l (by omega)
  obtain ⟨bb, bo, hbe, hbb, hbc⟩ := (hs.on hB).b (by omega)
  rw [hre, hbe] at hC hw1
  rw [hre, hbe]
  have HC := Lib.hid hC
  obtain ⟨nb, hnb⟩ : ∃ x, s.nb = x := ⟨_, rfl⟩
  obtain ⟨nr, hnr⟩ : ∃ x, s.nr = x := ⟨_, rfl⟩
  have HNB := Lib.hid (And.intro hnb hnr)
  rw [hnb] at hb9 hb1 hw1 hbc HC
  rw [hnr] at hr9 hr1 hw1 hrc HC
  rw [hnb, hnr]
  have HT := Lib.hid (And.intro hrb hrc)
  have HU := Lib.hid (And.intro hbb hbc)
  have CP : Hid (∀ k, k < nr → ∀ W, Below w1.heap.size w1 W → Calls Tryd.prog 77 #[.agg #[.string (s.R k).name, .slice (s.R k).ha (s.R k).n (s.R k).hc, .bool (s.R k).hauled], .string x] W fun e w' => e = .returned (.int .i64 (mtx s q k)) ∧ Below W.heap.size W w') := fun k hk W hW => by
    have := rPull_any (s.R k).name (s.R k).ha (s.R k).n (s.R k).hc (s.R k).hs (s.R k).hauled x W (knB s.bn s.nb) (ho.rop k (by omega)) ((hs.on (below_on hB hW)).r.h k (by omega))
    rw [← hx] at this ⊢
    exact this
  have HP := Lib.hid ho
  have S0 : Hid (Below w1.heap.size w1 w1) := Below.refl _ _
  clear hs hC hB hsm ho hnb hnr hre hrb hrc hbe hbb hbc hx
  go_enter Tryd.func32, Tryd.ntmps32
  go_upto_region 1 with fail
  rw [← hxb, ← hw1]
  clear hxb hw1
  have c1 := HC.out.c1
  go_wp2_with fail
  clear c1
  go_loopg [5, 6] nr (fun mm s5 s6 wx => ∃ k : Nat, s5 = .int .i64 (prt s q k) ∧ s6 = .int .i64 (k : Int) ∧ mm = nr - k ∧ k ≤ nr ∧ Hid (Below w1.heap.size w1 wx))
  case atStart => exact ⟨0, rfl, rfl, rfl, Nat.zero_le _, S0⟩
  case round =>
    clear S0
    obtain ⟨k, rfl, rfl, rfl, hk, S⟩ := hrel
    rename World => W1
    have c1 := (S.out.cell (p := ⟨xb, 1, none⟩) HC.out.lt).trans HC.out.c1
    by_cases hlt : k < nr
    · have lk : (k : Int) < (nr : Int) := by omega
      have wk : IntKind.i64.wrap ((k : Int) + 1) = ((k + 1 : Nat) : Int) := by rw [IntWalk.i64_in _ (by omega)]; omega
      have p1 := (S.out.cell (p := ⟨rb, ro + k * 3, none⟩) HT.out.1).trans (HT.out.2 k hlt).1
      have p2 := (S.out.cell (p := ⟨rb, ro + k * 3 + 1, none⟩) HT.out.1).trans (HT.out.2 k hlt).2.1
      have p3 := (S.out.cell (p := ⟨rb, ro + k * 3 + 2, none⟩) HT.out.1).trans (HT.out.2 k hlt).2.2
      have CPk := Lib.hid (CP.out k hlt W1 S.out)
      have hkr : k < s.nr := by rw [HNB.out.2]; exact hlt
      have b1 := prt_bd HP.out q k (by omega)
      have b2 := mtx_bd HP.out q hkr
      have HST := Lib.hid (show prt s q (k + 1) = prt s q k + mtx s q k from rfl)
      have wp : IntKind.i64.wrap (prt s q k + mtx s q k) = prt s q k + mtx s q k := IntWalk.i64_in _ (by omega)
      clear hkr b1 b2
      go_wp2_with (go_at_call 77; (with_reducible refine (CPk.out.mono ?_)); rintro e w4 ⟨rfl, hb4⟩; have S4 := Lib.hid (below_on S.out hb4); clear hb4)
      go_roundg (nr - (k + 1))
      case measure => omega
      case rel => exact ⟨k + 1, by rw [HST.out], rfl, rfl, by omega, S4⟩
    · have lk : ¬ (k : Int) < (nr : Int) := by omega
      have e : nr = k := by omega
      subst e
      have R0 := Lib.hid (below_on HB.out S.out)
      clear S
      go_wp2_with fail
      go_ret
      exact ⟨rfl, R0.out⟩
set_option maxHeartbeats 8000000 in
theorem rWeights_any (s : Sys) (w : World) (hs : s.At w) (hsm : SysSm s) (ho : SysOk s) :
    Calls Tryd.prog 29 #[.agg #[.slice s.ba s.nb s.bc, .slice s.ra s.nr s.rc]] w fun e w' => ∃ pa pc, e = .returned (.slice pa s.nb pc) ∧ IRow w' pa s.nb (s.bw) ∧ Below w.heap.size w w' := by
  have hb9 := hsm.b
  have hr9 := hsm.r
  have hb1 := ho.b1
  have hr1 := ho.r1
  obtain ⟨w1, hw1⟩ : ∃ W, W = w.alloc (Obj.cells #[Value.slice s.ba s.nb s.bc, .slice s.ra s.nr s.rc] 36) := ⟨_, rfl⟩
  obtain ⟨xb, hxb⟩ : ∃ x, x = w.heap.size := ⟨_, rfl⟩
  have hC : C2 w1 xb (.slice s.ba s.nb s.bc) (.slice s.ra s.nr s.rc) := by rw [hw1, hxb]; exact C2.new _ _ _ _
  have hB : Below w.heap.size w w1 := by rw [hw1]; exact (Below.refl _ _).alloc (Nat.le_refl _) _
  have HB := Lib.hid hB
  obtain ⟨rb, ro, hre, hrb, hrc⟩ := (hs.on hB).r.l (by omega)
  obtain ⟨bb, bo, hbe, hbb, hbc⟩ := (hs.on hB).b (by omega)
  rw [hre, hbe] at hC hw1
  rw [hre, hbe]
  have HC := Lib.hid hC
  obtain ⟨nb, hnb⟩ : ∃ x, s.nb = x := ⟨_, rfl⟩
  obtain ⟨nr, hnr⟩ : ∃ x, s.nr = x := ⟨_, rfl⟩
  have HNB := Lib.hid (And.intro hnb hnr)
  rw [hnb] at hb9 hb1 hw1 hbc HC
  rw [hnr] at hr9 hr1 hw1 hrc HC
  rw [hnb, hnr]
  have HT := Lib.hid (And.intro hrb hrc)
  have HU := Lib.hid (And.intro hbb hbc)
  obtain ⟨f, hf⟩ : ∃ f : Nat → Int, (s.bw) = f := ⟨_, rfl⟩
  have hfe : ∀ k, f k = (s.bw) k := fun k => by rw [hf]
  rw [hf]
  have HFE := Lib.hid hfe
  have S0 : Hid (Below w1.heap.size w1 w1 ∧ StI w1 w1.heap.size (.slice none 0 0) 0 f) := ⟨Below.refl _ _, StI.start _ _ _⟩
  clear hs hC hB hsm ho hnb hnr hre hrb hrc hbe hbb hbc hf hfe
  go_enter Tryd.func29, Tryd.ntmps29
  go_upto_region 1 with fail
  rw [← hxb, ← hw1]
  clear hxb hw1
  have c0 := HC.out.c0
  have c1 := HC.out.c1
  go_wp2_with fail
  clear c0 c1
  go_loopg [3, 4] nb (fun mm s3 s4 wx => ∃ k : Nat, s4 = .int .i64 (k : Int) ∧ mm = nb - k ∧ k ≤ nb ∧ Hid (Below w1.heap.size w1 wx ∧ StI wx w1.heap.size s3 k f))
  case atStart => exact ⟨0, rfl, rfl, Nat.zero_le _, S0⟩
  case round =>
    clear S0
    obtain ⟨k, rfl, rfl, hk, S⟩ := hrel
    rename World => W1
    obtain ⟨pa, pc, hpv⟩ := own_form S.out.2
    subst hpv
    have c0 := (S.out.1.cell (p := ⟨xb, 0, none⟩) HC.out.lt).trans HC.out.c0
    have c1 := (S.out.1.cell (p := ⟨xb, 1, none⟩) HC.out.lt).trans HC.out.c1
    by_cases hlt : k < nb
    · have lk : (k : Int) < (nb : Int) := by omega
      have wk : IntKind.i64.wrap ((k : Int) + 1) = ((k + 1 : Nat) : Int) := by rw [IntWalk.i64_in _ (by omega)]; omega
      have hfk := HFE.out k
      have p1 := (S.out.1.cell (p := ⟨bb, bo + k * 2, none⟩) HU.out.1).trans (HU.out.2 k hlt).1
      have p2 := (S.out.1.cell (p := ⟨bb, bo + k * 2 + 1, none⟩) HU.out.1).trans (HU.out.2 k hlt).2
      have B3 : Hid (Below W1.heap.size W1 (W1.alloc (Obj.cells #[.int .i64 (s.bw k)] 3))) := (Below.refl _ _).alloc (Nat.le_refl _) _
      have O3 := Lib.hid (S.out.2.on B3.out)
      have A3 := Lib.hid (show (W1.alloc (Obj.cells #[.int .i64 (s.bw k)] 3)).cell? ⟨W1.heap.size, 0, none⟩ = some (.int .i64 (s.bw k)) from by simp)
      have L3 : Hid (w1.heap.size ≤ (W1.alloc (Obj.cells #[.int .i64 (s.bw k)] 3)).heap.size) := Nat.le_trans S.out.1.size B3.out.size
      have E3 : Hid ((s.bw k) = f k) := hfk.symm
      clear hfk
      go_wp2_with (at_builtin; refine wpList_app_int _ rfl rfl _ _ rfl w1.heap.size k _ f rfl O3.out ⟨W1.heap.size, 0, none⟩ 1 rfl (by rw [← E3.out]; exact A3.out) (by omega) L3.out ?_; intro g3 cap3 W3 hown hgrow
                   have S3 : Hid (Below w1.heap.size w1 W3 ∧ StI W3 w1.heap.size (.slice (some ⟨g3, 0, none⟩) (k + 1) cap3) (k + 1) f) := ⟨below_grown (w := w1) (below_on S.out.1 B3.out) O3.out hgrow, hown⟩
                   clear hown hgrow B3 O3 A3 L3 E3)
      go_roundg (nb - (k + 1))
      case measure => omega
      case rel => exact ⟨k + 1, rfl, rfl, by omega, S3⟩
    · have lk : ¬ (k : Int) < (nb : Int) := by omega
      have e : nb = k := by omega
      subst e
      have R0 : Hid (IRow W1 pa nb f ∧ Below w.heap.size w W1) := ⟨S.out.2.irow, below_on HB.out S.out.1⟩
      clear S
      go_wp2_with fail
      go_ret
      exact ⟨pa, ⟨pc, rfl⟩, R0.out⟩
set_option maxHeartbeats 8000000 in
theorem rHauled_any (s : Sys) (w : World) (hs : s.At w) (hsm : SysSm s) (ho : SysOk s) :
    Calls Tryd.prog 30 #[.agg #[.slice s.ba s.nb s.bc, .slice s.ra s.nr s.rc]] w fun e w' => ∃ pa pc, e = .returned (.slice pa s.nr pc) ∧ IRow w' pa s.nr (fun k => if (s.R k).hauled then 1 else 0) ∧ Below w.heap.size w w' := by
  have hb9 := hsm.b
  have hr9 := hsm.r
  have hb1 := ho.b1
  have hr1 := ho.r1
  obtain ⟨w1, hw1⟩ : ∃ W, W = w.alloc (Obj.cells #[Value.slice s.ba s.nb s.bc, .slice s.ra s.nr s.rc] 36) := ⟨_, rfl⟩
  obtain ⟨xb, hxb⟩ : ∃ x, x = w.heap.size := ⟨_, rfl⟩
  have hC : C2 w1 xb (.slice s.ba s.nb s.bc) (.slice s.ra s.nr s.rc) := by rw [hw1, hxb]; exact C2.new _ _ _ _
  have hB : Below w.heap.size w w1 := by rw [hw1]; exact (Below.refl _ _).alloc (Nat.le_refl _) _
  have HB := Lib.hid hB
  obtain ⟨rb, ro, hre, hrb, hrc⟩ := (hs.on hB).r.l (by omega)
  obtain ⟨bb, bo, hbe, hbb, hbc⟩ := (hs.on hB).b (by omega)
  rw [hre, hbe] at hC hw1
  rw [hre, hbe]
  have HC := Lib.hid hC
  obtain ⟨nb, hnb⟩ : ∃ x, s.nb = x := ⟨_, rfl⟩
  obtain ⟨nr, hnr⟩ : ∃ x, s.nr = x := ⟨_, rfl⟩
  have HNB := Lib.hid (And.intro hnb hnr)
  rw [hnb] at hb9 hb1 hw1 hbc HC
  rw [hnr] at hr9 hr1 hw1 hrc HC
  rw [hnb, hnr]
  have HT := Lib.hid (And.intro hrb hrc)
  have HU := Lib.hid (And.intro hbb hbc)
  obtain ⟨f, hf⟩ : ∃ f : Nat → Int, (fun k => if (s.R k).hauled then 1 else 0) = f := ⟨_, rfl⟩
  have hfe : ∀ k, f k = (fun k => if (s.R k).hauled then 1 else 0) k := fun k => by rw [hf]
  rw [hf]
  have HFE := Lib.hid hfe
  have S0 : Hid (Below w1.heap.size w1 w1 ∧ StI w1 w1.heap.size (.slice none 0 0) 0 f) := ⟨Below.refl _ _, StI.start _ _ _⟩
  clear hs hC hB hsm ho hnb hnr hre hrb hrc hbe hbb hbc hf hfe
  go_enter Tryd.func30, Tryd.ntmps30
  go_upto_region 1 with fail
  rw [← hxb, ← hw1]
  clear hxb hw1
  have c0 := HC.out.c0
  have c1 := HC.out.c1
  go_wp2_with fail
  clear c0 c1
  go_loopg [3, 4] nr (fun mm s3 s4 wx => ∃ k : Nat, s4 = .int .i64 (k : Int) ∧ mm = nr - k ∧ k ≤ nr ∧ Hid (Below w1.heap.size w1 wx ∧ StI wx w1.heap.size s3 k f))
  case atStart => exact ⟨0, rfl, rfl, Nat.zero_le _, S0⟩
  case round =>
    clear S0
    obtain ⟨k, rfl, rfl, hk, S⟩ := hrel
    rename World => W1
    obtain ⟨pa, pc, hpv⟩ := own_form S.out.2
    subst hpv
    have c0 := (S.out.1.cell (p := ⟨xb, 0, none⟩) HC.out.lt).trans HC.out.c0
    have c1 := (S.out.1.cell (p := ⟨xb, 1, none⟩) HC.out.lt).trans HC.out.c1
    by_cases hlt : k < nr
    · have lk : (k : Int) < (nr : Int) := by omega
      have wk : IntKind.i64.wrap ((k : Int) + 1) = ((k + 1 : Nat) : Int) := by rw [IntWalk.i64_in _ (by omega)]; omega
      have hfk := HFE.out k
      have p1 := (S.out.1.cell (p := ⟨rb, ro + k * 3, none⟩) HT.out.1).trans (HT.out.2 k hlt).1
      have p2 := (S.out.1.cell (p := ⟨rb, ro + k * 3 + 1, none⟩) HT.out.1).trans (HT.out.2 k hlt).2.1
      have p3 := (S.out.1.cell (p := ⟨rb, ro + k * 3 + 2, none⟩) HT.out.1).trans (HT.out.2 k hlt).2.2
      by_cases hh : (s.R k).hauled = true
      · rw [hh] at p3
        simp only [if_pos hh] at hfk
        have B3 : Hid (Below W1.heap.size W1 (W1.alloc (Obj.cells #[.int .i64 1] 3))) := (Below.refl _ _).alloc (Nat.le_refl _) _
        have O3 := Lib.hid (S.out.2.on B3.out)
        have A3 := Lib.hid (show (W1.alloc (Obj.cells #[.int .i64 1] 3)).cell? ⟨W1.heap.size, 0, none⟩ = some (.int .i64 1) from by simp)
        have L3 : Hid (w1.heap.size ≤ (W1.alloc (Obj.cells #[.int .i64 1] 3)).heap.size) := Nat.le_trans S.out.1.size B3.out.size
        have E3 : Hid (1 = f k) := hfk.symm
        clear hfk
        go_wp2_with (at_builtin; refine wpList_app_int _ rfl rfl _ _ rfl w1.heap.size k _ f rfl O3.out ⟨W1.heap.size, 0, none⟩ 1 rfl (by rw [← E3.out]; exact A3.out) (by omega) L3.out ?_; intro g3 cap3 W3 hown hgrow
                     have S3 : Hid (Below w1.heap.size w1 W3 ∧ StI W3 w1.heap.size (.slice (some ⟨g3, 0, none⟩) (k + 1) cap3) (k + 1) f) := ⟨below_grown (w := w1) (below_on S.out.1 B3.out) O3.out hgrow, hown⟩
                     clear hown hgrow B3 O3 A3 L3 E3)
        go_roundg (nr - (k + 1))
        case measure => omega
        case rel => exact ⟨k + 1, rfl, rfl, by omega, S3⟩
      · have hh2 : (s.R k).hauled = false := by simpa using hh
        rw [hh2] at p3
        simp only [if_neg hh] at hfk
        clear hh hh2
        have B3 : Hid (Below W1.heap.size W1 (W1.alloc (Obj.cells #[.int .i64 0] 3))) := (Below.refl _ _).alloc (Nat.le_refl _) _
        have O3 := Lib.hid (S.out.2.on B3.out)
        have A3 := Lib.hid (show (W1.alloc (Obj.cells #[.int .i64 0] 3)).cell? ⟨W1.heap.size, 0, none⟩ = some (.int .i64 0) from by simp)
        have L3 : Hid (w1.heap.size ≤ (W1.alloc (Obj.cells #[.int .i64 0] 3)).heap.size) := Nat.le_trans S.out.1.size B3.out.size
        have E3 : Hid (0 = f k) := hfk.symm
        clear hfk
        go_wp2_with (at_builtin; refine wpList_app_int _ rfl rfl _ _ rfl w1.heap.size k _ f rfl O3.out ⟨W1.heap.size, 0, none⟩ 1 rfl (by rw [← E3.out]; exact A3.out) (by omega) L3.out ?_; intro g3 cap3 W3 hown hgrow
                     have S3 : Hid (Below w1.heap.size w1 W3 ∧ StI W3 w1.heap.size (.slice (some ⟨g3, 0, none⟩) (k + 1) cap3) (k + 1) f) := ⟨below_grown (w := w1) (below_on S.out.1 B3.out) O3.out hgrow, hown⟩
                     clear hown hgrow B3 O3 A3 L3 E3)
        go_roundg (nr - (k + 1))
        case measure => omega
        case rel => exact ⟨k + 1, rfl, rfl, by omega, S3⟩
    · have lk : ¬ (k : Int) < (nr : Int) := by omega
      have e : nr = k := by omega
      subst e
      have R0 : Hid (IRow W1 pa nr f ∧ Below w.heap.size w W1) := ⟨S.out.2.irow, below_on HB.out S.out.1⟩
      clear S
      go_wp2_with fail
      go_ret
      exact ⟨pa, ⟨pc, rfl⟩, R0.out⟩
end Go.Proofs.YtcghjjfpjiacfaaDoor
