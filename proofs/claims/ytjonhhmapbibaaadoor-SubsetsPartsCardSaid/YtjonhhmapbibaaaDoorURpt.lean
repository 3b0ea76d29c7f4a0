/- Layer 7: the reference's Parts, walked. -/
import Derived.Test.YtjonhhmapbibaaaDoorUCmm
import Derived.Test.YtjonhhmapbibaaaDoorUPart
namespace Go.Proofs.YtjonhhmapbibaaaDoor
open Go.ChangeShapes Go.WideShapes Go.ChangeAt Go.RowKit Go.Joins Go.Deep Go.Shelf
set_option linter.unusedVariables false

theorem LR_inj {n a b : Nat} (ha : a < 2 ^ n) (hb : b < 2 ^ n) (h : LR n a = LR n b) : a = b := Nat.eq_of_testBit_eq fun i => by
  by_cases hi : i < n
  · have key : i ∈ LR n a ↔ i ∈ LR n b := by rw [h]
    unfold LR ixs bitR at key
    simp only [List.mem_filter, List.mem_range, hi, true_and] at key
    exact Bool.eq_iff_iff.2 key
  · have l := Nat.pow_le_pow_right (show 0 < 2 by decide) (show n ≤ i by omega)
    rw [Nat.testBit_lt_two_pow (by omega), Nat.testBit_lt_two_pow (by omega)]
/-- A part with one part less behind it. -/
def CdQ (F C : Nat → Int) (s q : Nat) : Prop := Qt F s q ∧ C (s - q) = C s - 1
/-- The earliest one of the parts above p. -/
def BstQ (F C : Nat → Int) (n s p b : Nat) : Prop :=
  (b = 0 ∧ ∀ r, p < r → ¬ CdQ F C s r) ∨ (CdQ F C s b ∧ p < b ∧ ∀ r, p < r → CdQ F C s r → r = b ∨ earl (LR n b) (LR n r) = true)
theorem BstQ.init (F C : Nat → Int) (n s : Nat) : BstQ F C n s s 0 := .inl ⟨rfl, fun r h hr => by have := hr.1.le; omega⟩
theorem BstQ.skip {F C : Nat → Int} {n s p b : Nat} (h : BstQ F C n s p b) (hp : p &&& s = p) (h0 : 0 < p) (hn : ¬ CdQ F C s p) : BstQ F C n s ((p - 1) &&& s) b := by
  have hle : (p - 1) &&& s < p := Nat.lt_of_le_of_lt Nat.and_le_left (by omega)
  rcases h with ⟨e, h⟩ | ⟨hQ, hq, h⟩
  · refine .inl ⟨e, fun r hl hr => ?_⟩
    rcases above hp hr.1.1 hl with l | l
    · exact h r l hr
    · subst l; exact hn hr
  · refine .inr ⟨hQ, by omega, fun r hl hr => ?_⟩
    rcases above hp hr.1.1 hl with l | l
    · exact h r l hr
    · subst l; exact absurd hr hn
theorem BstQ.take {F C : Nat → Int} {n s p b : Nat} (h : BstQ F C n s p b) (hp : p &&& s = p) (h0 : 0 < p) (hc : CdQ F C s p) (hb : b = 0 ∨ earl (LR n p) (LR n b) = true) : BstQ F C n s ((p - 1) &&& s) p := by
  have hle : (p - 1) &&& s < p := Nat.lt_of_le_of_lt Nat.and_le_left (by omega)
  refine .inr ⟨hc, hle, fun r hl hr => ?_⟩
  rcases above hp hr.1.1 hl with l | l
  · rcases h with ⟨e, h⟩ | ⟨hQ, hq, h⟩
    · exact absurd hr (h r l)
    · rcases hb with e | e
      · have := hQ.1.pos; omega
      · rcases h r l hr with k | k
        · rw [k]; exact .inr e
        · exact .inr (earl_trans e k)
  · exact .inl l
theorem BstQ.stay {F C : Nat → Int} {n s p b : Nat} (h : BstQ F C n s p b) (hs : s < 2 ^ n) (hp : p &&& s = p) (h0 : 0 < p) (hb : b ≠ 0) (he : earl (LR n p) (LR n b) = false) : BstQ F C n s ((p - 1) &&& s) b := by
  have hle : (p - 1) &&& s < p := Nat.lt_of_le_of_lt Nat.and_le_left (by omega)
  have hps : p ≤ s := by rw [← hp]; exact Nat.and_le_right
  rcases h with ⟨e, h⟩ | ⟨hQ, hq, h⟩
  · exact absurd e hb
  · refine .inr ⟨hQ, by omega, fun r hl hr => ?_⟩
    rcases above hp hr.1.1 hl with l | l
    · exact h r l hr
    · subst l
      have hbs := hQ.1.le
      rcases earl_tot (l := LR n b) (m := LR n r) (fun e => by have := LR_inj (by omega) (by omega) e; omega) with k | k
      · exact .inr k
      · rw [he] at k; cases k
/-- There is a part to take. -/
theorem cd_ex {F C : Nat → Int} {n s : Nat} (hC : ∀ t, t < 2 ^ n → IsCnt F t (C t)) (hs : s < 2 ^ n) (h0 : 0 < s) (hz : F s = 0) (hlow : s &&& lowS s ≠ 0) : ∃ q, CdQ F C s q := by
  rcases hC s hs with ⟨_, hno⟩ | ⟨j, ej, hj, hmax⟩
  · exact absurd (show Pt F s 1 from ⟨s, ⟨Nat.and_self s, hlow, hz⟩, Nat.sub_self s⟩) (hno 1)
  · cases j with
    | zero => exact absurd (show s = 0 from hj) (by omega)
    | succ j =>
      obtain ⟨q, hQ, hp⟩ := hj
      refine ⟨q, hQ, ?_⟩
      have := hQ.pos
      have := hQ.le
      rcases hC (s - q) (by omega) with ⟨_, hno⟩ | ⟨i, ei, hi, hm⟩
      · exact absurd hp (hno j)
      · have a := hm j hp
        have b := hmax (i + 1) ⟨q, hQ, hi⟩
        rw [ei, ej]
        omega
theorem BstQ.got {F C : Nat → Int} {n s b : Nat} (h : BstQ F C n s 0 b) (he : ∃ q, CdQ F C s q) : CdQ F C s b ∧ ∀ r, CdQ F C s r → r = b ∨ earl (LR n b) (LR n r) = true := by
  rcases h with ⟨_, h⟩ | ⟨hQ, _, h⟩
  · obtain ⟨q, hq⟩ := he
    exact absurd hq (h q hq.1.pos)
  · exact ⟨hQ, fun r hr => h r hr.1.pos hr⟩
/-- The parts that the reference takes, one after the other. -/
def PtC (F C : Nat → Int) (n : Nat) : Nat → List Nat → Prop
  | s, [] => s = 0
  | s, q :: qs => s ≠ 0 ∧ CdQ F C s q ∧ (∀ r, CdQ F C s r → r = q ∨ earl (LR n q) (LR n r) = true) ∧ PtC F C n (s - q) qs
structure RpaR (g M cp lf p lw u d : Nat) (s z y x : Int) (bl : Bool) (l0 : Value) (Wc : World) (L : Nat → Bool) (v : Nat → Value) (W : World) : Prop where
  st : Below Wc.heap.size Wc W
  w3 : Had L 3 (∀ j ∈ [2], L j = true)
  w4 : Had L 4 (∀ j ∈ [1, 3], L j = true)
  w5 : Had L 5 (∀ j ∈ [0, 4], L j = true)
  w6 : Had L 6 (∀ j ∈ [5], L j = true)
  w7 : Had L 7 (∀ j ∈ [6], L j = true)
  w8 : Had L 8 (∀ j ∈ [7], L j = true)
  w9 : Had L 9 (∀ j ∈ [7], L j = true)
  w10 : Had L 10 (∀ j ∈ [7, 8, 9], L j = true)
  w11 : Had L 11 (∀ j ∈ [7, 10], L j = true)
  w12 : Had L 12 (∀ j ∈ [7, 11], L j = true)
  w13 : Had L 13 (∀ j ∈ [12], L j = true)
  w14 : Had L 14 (∀ j ∈ [13], L j = true)
  w15 : Had L 15 (∀ j ∈ [13], L j = true)
  w16 : Had L 16 (∀ j ∈ [13], L j = true)
  w17 : Had L 17 (∀ j ∈ [13, 15, 16], L j = true)
  w18 : Had L 18 (∀ j ∈ [13, 14, 17], L j = true)
  w19 : Had L 19 (∀ j ∈ [13, 18], L j = true)
  w20 : Had L 20 (∀ j ∈ [13], L j = true)
  w21 : Had L 21 (∀ j ∈ [13], L j = true)
  w22 : Had L 22 (∀ j ∈ [13, 20, 21], L j = true)
  w23 : Had L 23 (∀ j ∈ [13, 22], L j = true)
  w24 : Had L 24 (∀ j ∈ [13, 23], L j = true)
  w25 : Had L 25 (∀ j ∈ [13, 19, 24], L j = true)
  w26 : Had L 26 (∀ j ∈ [13, 25], L j = true)
  f0 : Had L 0 (v 37 = .int .i64 (p : Int))
  f1 : Had L 1 (v 38 = .int .i64 (lf : Int))
  f2 : Had L 2 (v 39 = .int .i64 (lf : Int))
  f3 : Had L 3 (v 40 = .int .i64 (-(lf : Int)))
  f4 : Had L 4 (v 41 = .int .i64 (lw : Int))
  f5 : Had L 5 (v 42 = .int .i64 (u : Int))
  f6 : Had L 6 (v 43 = .bool true)
  f7 : Had L 7 (v 44 = .bool true)
  f8 : Had L 8 (v 45 = undef)
  f9 : Had L 9 (v 46 = undef)
  f10 : Had L 10 (v 47 = undef)
  f11 : Had L 11 (v 48 = undef)
  f12 : Had L 12 (v 49 = .bool true)
  f13 : Had L 13 (v 50 = .bool true)
  f14 : Had L 14 (v 51 = undef)
  f15 : Had L 15 (v 52 = undef)
  f16 : Had L 16 (v 53 = undef)
  f17 : Had L 17 (v 54 = undef)
  f18 : Had L 18 (v 55 = undef)
  f19 : Had L 19 (v 56 = undef)
  f20 : Had L 20 (v 57 = undef)
  f21 : Had L 21 (v 58 = undef)
  f22 : Had L 22 (v 59 = undef)
  f23 : Had L 23 (v 60 = undef)
  f24 : Had L 24 (v 61 = undef)
  f25 : Had L 25 (v 62 = undef)
  f26 : Had L 26 (v 63 = .bool true)
structure RpbR (g M cp lf p lw u d : Nat) (s z y x : Int) (bl : Bool) (l0 : Value) (Wc : World) (L : Nat → Bool) (v : Nat → Value) (W : World) : Prop where
  st : Below Wc.heap.size Wc W
  w3 : Had L 3 (∀ j ∈ [2], L j = true)
  w4 : Had L 4 (∀ j ∈ [1, 3], L j = true)
  w5 : Had L 5 (∀ j ∈ [0, 4], L j = true)
  w6 : Had L 6 (∀ j ∈ [5], L j = true)
  w7 : Had L 7 (∀ j ∈ [6], L j = true)
  w8 : Had L 8 (∀ j ∈ [7], L j = true)
  w9 : Had L 9 (∀ j ∈ [7], L j = true)
  w10 : Had L 10 (∀ j ∈ [7, 8, 9], L j = true)
  w11 : Had L 11 (∀ j ∈ [7, 10], L j = true)
  w12 : Had L 12 (∀ j ∈ [7, 11], L j = true)
  w13 : Had L 13 (∀ j ∈ [12], L j = true)
  w14 : Had L 14 (∀ j ∈ [13], L j = true)
  w15 : Had L 15 (∀ j ∈ [13], L j = true)
  w16 : Had L 16 (∀ j ∈ [13], L j = true)
  w17 : Had L 17 (∀ j ∈ [13, 15, 16], L j = true)
  w18 : Had L 18 (∀ j ∈ [13, 14, 17], L j = true)
  w19 : Had L 19 (∀ j ∈ [13, 18], L j = true)
  w20 : Had L 20 (∀ j ∈ [13], L j = true)
  w21 : Had L 21 (∀ j ∈ [13], L j = true)
  w22 : Had L 22 (∀ j ∈ [13, 20, 21], L j = true)
  w23 : Had L 23 (∀ j ∈ [13, 22], L j = true)
  w24 : Had L 24 (∀ j ∈ [13, 23], L j = true)
  w25 : Had L 25 (∀ j ∈ [13, 19, 24], L j = true)
  w26 : Had L 26 (∀ j ∈ [13, 25], L j = true)
  f0 : Had L 0 (v 37 = .int .i64 (p : Int))
  f1 : Had L 1 (v 38 = .int .i64 (lf : Int))
  f2 : Had L 2 (v 39 = .int .i64 (lf : Int))
  f3 : Had L 3 (v 40 = .int .i64 (-(lf : Int)))
  f4 : Had L 4 (v 41 = .int .i64 (lw : Int))
  f5 : Had L 5 (v 42 = .int .i64 (u : Int))
  f6 : Had L 6 (v 43 = .bool false)
  f7 : Had L 7 (v 44 = .bool false)
  f8 : Had L 8 (v 45 = l0)
  f9 : Had L 9 (v 46 = .int .i64 (p : Int))
  f10 : Had L 10 (v 47 = .int .i64 s)
  f11 : Had L 11 (v 48 = .bool true)
  f12 : Had L 12 (v 49 = .bool true)
  f13 : Had L 13 (v 50 = .bool true)
  f14 : Had L 14 (v 51 = undef)
  f15 : Had L 15 (v 52 = undef)
  f16 : Had L 16 (v 53 = undef)
  f17 : Had L 17 (v 54 = undef)
  f18 : Had L 18 (v 55 = undef)
  f19 : Had L 19 (v 56 = undef)
  f20 : Had L 20 (v 57 = undef)
  f21 : Had L 21 (v 58 = undef)
  f22 : Had L 22 (v 59 = undef)
  f23 : Had L 23 (v 60 = undef)
  f24 : Had L 24 (v 61 = undef)
  f25 : Had L 25 (v 62 = undef)
  f26 : Had L 26 (v 63 = .bool true)
structure RpcR (g M cp lf p lw u d : Nat) (s z y x : Int) (bl : Bool) (l0 : Value) (Wc : World) (L : Nat → Bool) (v : Nat → Value) (W : World) : Prop where
  st : Below Wc.heap.size Wc W
  w3 : Had L 3 (∀ j ∈ [2], L j = true)
  w4 : Had L 4 (∀ j ∈ [1, 3], L j = true)
  w5 : Had L 5 (∀ j ∈ [0, 4], L j = true)
  w6 : Had L 6 (∀ j ∈ [5], L j = true)
  w7 : Had L 7 (∀ j ∈ [6], L j = true)
  w8 : Had L 8 (∀ j ∈ [7], L j = true)
  w9 : Had L 9 (∀ j ∈ [7], L j = true)
  w10 : Had L 10 (∀ j ∈ [7, 8, 9], L j = true)
  w11 : Had L 11 (∀ j ∈ [7, 10], L j = true)
  w12 : Had L 12 (∀ j ∈ [7, 11], L j = true)
  w13 : Had L 13 (∀ j ∈ [12], L j = true)
  w14 : Had L 14 (∀ j ∈ [13], L j = true)
  w15 : Had L 15 (∀ j ∈ [13], L j = true)
  w16 : Had L 16 (∀ j ∈ [13], L j = true)
  w17 : Had L 17 (∀ j ∈ [13, 15, 16], L j = true)
  w18 : Had L 18 (∀ j ∈ [13, 14, 17], L j = true)
  w19 : Had L 19 (∀ j ∈ [13, 18], L j = true)
  w20 : Had L 20 (∀ j ∈ [13], L j = true)
  w21 : Had L 21 (∀ j ∈ [13], L j = true)
  w22 : Had L 22 (∀ j ∈ [13, 20, 21], L j = true)
  w23 : Had L 23 (∀ j ∈ [13, 22], L j = true)
  w24 : Had L 24 (∀ j ∈ [13, 23], L j = true)
  w25 : Had L 25 (∀ j ∈ [13, 19, 24], L j = true)
  w26 : Had L 26 (∀ j ∈ [13, 25], L j = true)
  f0 : Had L 0 (v 37 = .int .i64 (p : Int))
  f1 : Had L 1 (v 38 = .int .i64 (lf : Int))
  f2 : Had L 2 (v 39 = .int .i64 (lf : Int))
  f3 : Had L 3 (v 40 = .int .i64 (-(lf : Int)))
  f4 : Had L 4 (v 41 = .int .i64 (lw : Int))
  f5 : Had L 5 (v 42 = .int .i64 (u : Int))
  f6 : Had L 6 (v 43 = .bool false)
  f7 : Had L 7 (v 44 = .bool false)
  f8 : Had L 8 (v 45 = l0)
  f9 : Had L 9 (v 46 = .int .i64 (p : Int))
  f10 : Had L 10 (v 47 = .int .i64 0)
  f11 : Had L 11 (v 48 = .bool false)
  f12 : Had L 12 (v 49 = .bool false)
  f13 : Had L 13 (v 50 = .bool false)
  f14 : Had L 14 (v 51 = .slice (some ⟨g, 0, none⟩) (M) (cp))
  f15 : Had L 15 (v 52 = .int .i64 (lf : Int))
  f16 : Had L 16 (v 53 = .int .i64 (p : Int))
  f17 : Had L 17 (v 54 = .int .i64 (d : Int))
  f18 : Had L 18 (v 55 = .pointer (some ⟨g, d, none⟩))
  f19 : Had L 19 (v 56 = .int .i64 z)
  f20 : Had L 20 (v 57 = .slice (some ⟨g, 0, none⟩) (M) (cp))
  f21 : Had L 21 (v 58 = .int .i64 (lf : Int))
  f22 : Had L 22 (v 59 = .pointer (some ⟨g, lf, none⟩))
  f23 : Had L 23 (v 60 = .int .i64 y)
  f24 : Had L 24 (v 61 = .int .i64 x)
  f25 : Had L 25 (v 62 = .bool bl)
  f26 : Had L 26 (v 63 = .bool bl)
set_option maxRecDepth 100000 in
set_option maxHeartbeats 32000000 in
theorem rParts_any (F : Nat → Int) (ra : Option Addr) (n c : Nat) (f : Nat → Int) (hF : ∀ t, smS (bitR t) f n = F t) (w : World) (hr : IRow w ra n f) (hn : n ≤ 11) (ho : okF n f = true) :
    Calls Tryd.prog 12 #[.slice ra n c] w fun e w' => Below w.heap.size w w' ∧ ((F (2 ^ n - 1) ≠ 0 ∧ e = .returned (.tuple #[.slice none 0 0, .int .i64 18])) ∨
      (F (2 ^ n - 1) = 0 ∧ ∃ C qs v rows, e = .returned (.tuple #[v, .int .i64 0]) ∧ (∀ t, t < 2 ^ n → IsCnt F t (C t)) ∧ PtC F C n (2 ^ n - 1) qs ∧ PL w' w.heap.size v (qs.map (LR n)) rows)) := by
  have hg : givE n f = 0 := by unfold givE; rw [if_neg (by omega), if_pos ho]
  have hf := of_decide_eq_true ho
  have CG := Lib.hid (Given_any ra n c f w hr (by omega))
  rw [hg] at CG
  have CC := Lib.hid (counts_any F ra n c f hF w hr hn hf)
  have CS := fun t (ht : t < 9223372036854775808) W (hw : Below w.heap.size w W) => Lib.hid (rSum_any ra n c f t W (hr.on hw) (by omega) hf ht)
  simp only [hF] at CS
  have CI := fun t (ht : t < 9223372036854775808) W => Lib.hid (rInd_any ra n c t W (by omega) ht)
  have hN : 2 ^ n ≤ 2048 := Nat.le_trans (Nat.pow_le_pow_right (by decide) hn) (by decide)
  have h0 := Nat.two_pow_pos n
  have hc := p2_cast n
  have HAD := Lib.hid (fun s q (h1 : s < 2 ^ n) (h2 : Sub q s) => by
    have := (smS_addR n f (by omega)).add s q h1 h2
    simp only [hF] at this
    exact this)
  have HSTAY := Lib.hid (fun (C : Nat → Int) s p b (hs : s < 2 ^ n) (h : BstQ F C n s p b) => h.stay hs)
  have HEX := Lib.hid (fun (C : Nat → Int) s (hC : ∀ t, t < 2 ^ n → IsCnt F t (C t)) (hs : s < 2 ^ n) => cd_ex (F := F) hC hs)
  have kn : IntKind.u64.wrap (n : Int) = (n : Int) := IntWalk.u64_in _ (by omega)
  obtain ⟨i0, hi0, hz0, hz1, hz2⟩ := info_parts (show (Tryd.prog.info? 22).map (fun i => (i.zero, i.size, i.bytes)) = some (some (Value.slice none 0 0), 1, 24) by kernel_rfl)
  have HI := Lib.hid (And.intro hi0 (And.intro hz0 (And.intro hz1 hz2)))
  clear hi0 hz0 hz1 hz2 hr hF hf ho
  generalize hM : 2 ^ n = M at *
  have e1 : IntKind.i64.wrap (2 ^ n) = (M : Int) := by rw [hc, IntWalk.i64_in _ (by omega)]
  clear hM hc
  obtain ⟨T, hT⟩ : ∃ T, T = M - 1 := ⟨_, rfl⟩
  have e2 : IntKind.i64.wrap ((M : Int) - 1) = (T : Int) := by rw [IntWalk.i64_in _ (by omega)]; omega
  rw [← hT]
  have hTM : T < M := by omega
  clear hT
  obtain ⟨x, hx⟩ : ∃ x, F T = x := ⟨_, rfl⟩
  have CST := fun W hw => CS T (by omega) W hw
  rw [hx] at CST
  rw [hx]
  have HX := Lib.hid hx
  clear hx
  have CSX := fun p W (hp : p < 2048) hw => CS p (by omega) W hw
  have CIX := fun p W (hp : p < 2048) => CI p (by omega) W
  clear CS CI
  go_enter Tryd.func12, Tryd.ntmps12
  by_cases hx0 : x = 0
  case neg =>
    have q1 : (x != 0) = true := by simpa using hx0
    go_wp2_with (first
      | (go_at_call 11; (with_reducible refine ((CG.out).mono ?_)); rintro e w2 ⟨rfl, rfl⟩)
      | (go_at_call 28; (with_reducible refine ((CC.out).mono ?_)); rintro e w3 ⟨hb3, pa, pc, C, rfl, hown, hC⟩)
      | (go_at_call 29; (with_reducible refine (((CST _ hb3).out).mono ?_)); rintro e w4 ⟨rfl, rfl⟩))
    go_ret2
    exact ⟨hb3, .inl ⟨hx0, rfl⟩⟩
  case pos =>
  have q1 : (x != 0) = false := by simp [hx0]
  have HX0 : Hid (F T = 0) := by show _ = _; rw [HX.out, hx0]
  have HZ := Lib.hid hx0
  clear hx0 HX
  go_upto_region 9 with (first
    | (go_at_call 11; (with_reducible refine ((CG.out).mono ?_)); rintro e w2 ⟨rfl, rfl⟩)
    | (go_at_call 28; (with_reducible refine ((CC.out).mono ?_)); rintro e w3 ⟨hb3, pa0, cp, C, rfl, hown, hC⟩)
    | (go_at_call 29; (with_reducible refine (((CST _ hb3).out).mono ?_)); rintro e w4 ⟨rfl, rfl⟩))
  obtain ⟨g, cp2, hpv, hNR⟩ := own_nrow hown h0
  injection hpv with hp1 hp2 hp3
  subst hp1; subst hp3
  have NR := Lib.hid hNR
  have HC := Lib.hid hC
  have HB0 := Lib.hid hb3
  clear hown hNR hC hb3 CST CG CC q1
  have HEX2 := Lib.hid (fun s => HEX.out C s HC.out)
  have HST2 := Lib.hid (fun s p b => HSTAY.out C s p b)
  clear HEX HSTAY
  have S0 : Hid (Below w3.heap.size w3 w3 ∧ PL w3 w3.heap.size (.slice none 0 0) (([] : List Nat).map (LR n)) [] ∧ F T = 0 ∧ (∀ ps, PtC F C n T ps → PtC F C n T ([] ++ ps))) := ⟨Below.refl _ _, ⟨⟨rfl, .inl ⟨rfl, rfl⟩⟩, fun i hi => by cases hi⟩, HX0.out, fun ps h => h⟩
  go_wp2_with fail
  go_loopg [8, 7] (2 * T) (fun g' s8 s7 wx => ∃ (left : Nat) (dn : List Nat) (rows : List Value), s8 = .int .i64 left ∧ g' = 2 * left ∧ dn.length + left ≤ T ∧ Hid (Below w3.heap.size w3 wx ∧ PL wx w3.heap.size s7 (dn.map (LR n)) rows ∧ F left = 0 ∧ (∀ ps, PtC F C n left ps → PtC F C n T (dn ++ ps))))
  case atStart => exact ⟨T, [], [], rfl, rfl, by simp, S0⟩
  case round =>
    clear S0
    obtain ⟨left, dn, rows, rfl, rfl, hdl, S⟩ := hrel
    rename World => W1
    obtain ⟨pa, pc, hpv⟩ := own_form S.out.2.1.top
    have hlen : (dn.map (LR n)).length = dn.length := by simp
    rw [hlen] at hpv
    subst hpv
    by_cases hl0 : left = 0
    · subst hl0
      have q2 : ¬ (((0 : Nat) : Int) > 0) := by decide
      have HP := Lib.hid (S.out.2.2.2 [] rfl)
      rw [List.append_nil] at HP
      have T1 := Lib.hid (below_on HB0.out S.out.1)
      have T2 := Lib.hid (S.out.2.1.mono HB0.out.size)
      clear S
      go_wp2_with fail
      go_ret2
      first
        | exact ⟨T1.out, .inr ⟨HZ.out, C, dn, _, rows, rfl, HC.out, HP.out, T2.out⟩⟩
        | exact ⟨T1.out, .inr ⟨HZ.out, C, dn, _, rfl, HC.out, HP.out, rows, T2.out⟩⟩
        | exact ⟨T1.out, .inr ⟨HZ.out, C, HC.out, dn, HP.out, _, rows, rfl, T2.out⟩⟩
        | skip
    · have q2 : (left : Int) > 0 := by omega
      have hlM : left < M := by omega
      have q2n : 0 < left := by omega
      have HPL := Lib.hid S.out.2.1
      have HB := Lib.hid S.out.1
      have HFL := Lib.hid S.out.2.2.1
      have HNX := Lib.hid S.out.2.2.2
      have NR1 := Lib.hid (NR.out.on S.out.1)
      have w0 : IntKind.i64.wrap (0 - (left : Int)) = -(left : Int) := by rw [IntWalk.i64_in _ (by omega)]; omega
      have w01 : IntKind.i64.wrap (-(left : Int)) = -(left : Int) := IntWalk.i64_in _ (by omega)
      have wl := and_neg_i64 left (by omega) (by omega)
      have hlow : lowS left ≤ left := Nat.and_le_left
      have hcl := (HC.out left hlM).bd
      have wcl : IntKind.i64.wrap (C left - 1) = C left - 1 := IntWalk.i64_in _ (by omega)
      have HQ : Hid (∀ p, CdQ F C left p ↔ Qt F left p ∧ C (left - p) = C left - 1) := fun p => Iff.rfl
      have HS3 := Lib.hid (fun p b => HST2.out left p b hlM)
      have HE3 := Lib.hid (fun (h : left &&& lowS left ≠ 0) => HEX2.out left hlM (by omega) HFL.out h)
      have T0 : Hid (BstQ F C n left left 0 ∧ left &&& left = left) := ⟨BstQ.init F C n left, Nat.and_self left⟩
      obtain ⟨y, hy⟩ : ∃ y, C left = y := ⟨_, rfl⟩
      have LC : Hid (W1.cell? ⟨g, left, none⟩ = some (.int .i64 y) ∧ g < W1.heap.size) := ⟨by rw [NR1.out.cell left hlM, hy], NR1.out.hb⟩
      rw [hy] at HQ wcl hcl
      obtain ⟨y1, hy1⟩ : ∃ y1, y - 1 = y1 := ⟨_, rfl⟩
      have wcl2 : IntKind.i64.wrap (y - 1) = y1 := by rw [wcl, hy1]
      clear wcl
      rw [hy1] at HQ
      have hls : lowS left = lowS left := rfl
      clear S hy hy1
      obtain ⟨lw, hlw⟩ : ∃ lw, lowS left = lw := ⟨_, rfl⟩
      have HQT : Hid (∀ p, Qt F left p ↔ p &&& left = p ∧ p &&& lw ≠ 0 ∧ F p = 0) := fun p => by rw [← hlw]; exact Iff.rfl
      have hlwp : left &&& lw ≠ 0 := by
        rw [← hlw]
        obtain ⟨t, ht⟩ := low_tz (n := 64) (s := left) (by omega) (by omega) (by decide)
        exact (low_in (q := left) (by omega) (by omega)).2 ⟨t, ht, ht.on⟩
      rw [hlw] at wl hlow HE3
      have HEX4 := Lib.hid (HE3.out hlwp)
      clear hlw hls HE3 hlwp
      go_wp2_with fail
      go_loopg [10, 9] (2 * left) (fun g' s10 s9 wx => ∃ (p b : Nat), s10 = .int .i64 p ∧ s9 = .int .i64 b ∧ g' = 2 * p ∧ p ≤ left ∧ b ≤ left ∧ Hid (Below W1.heap.size W1 wx ∧ BstQ F C n left p b ∧ p &&& left = p))
      case atStart => exact ⟨left, 0, rfl, rfl, rfl, Nat.le_refl _, Nat.zero_le _, ⟨Below.refl _ _, T0.out.1, T0.out.2⟩⟩
      case round =>
        clear T0
        obtain ⟨p, b, rfl, rfl, rfl, hp, hb, U⟩ := hrel
        rename World => W2
        by_cases hp0 : 0 < p
        · have lp : (p : Int) > 0 := by omega
          obtain ⟨d, hd⟩ : ∃ d, d = left - p := ⟨_, rfl⟩
          have hdk : d < M := by omega
          have wd : IntKind.i64.wrap ((left : Int) - (p : Int)) = (d : Int) := by rw [IntWalk.i64_in _ (by omega)]; omega
          have ldM : (d : Int) < (M : Int) := by omega
          have llM : (left : Int) < (M : Int) := by omega
          have ka := and_i64_nat p lw (by omega) (by omega)
          have wp1 : IntKind.i64.wrap ((p : Int) - 1) = ((p - 1 : Nat) : Int) := by rw [IntWalk.i64_in _ (by omega)]; omega
          have kb := and_i64_nat (p - 1) left (by omega) (by omega)
          have hlt2 : (p - 1) &&& left < p := Nat.lt_of_le_of_lt Nat.and_le_left (by omega)
          have hsub : ((p - 1) &&& left) &&& left = (p - 1) &&& left := by rw [Nat.and_assoc, Nat.and_self]
          have HU := Lib.hid U.out.1
          have HT := Lib.hid U.out.2.1
          have hTp := U.out.2.2
          have HB2 := Lib.hid (below_on HB0.out (below_on HB.out HU.out))
          have CSp := fun W hw => CSX p W (by omega) hw
          have hQp := HQ.out p
          have hQq := HQT.out p
          have HSK := Lib.hid (fun hn => HT.out.skip hTp hp0 hn)
          have HTK := Lib.hid (fun hc hb => HT.out.take hTp hp0 hc hb)
          have HSY := Lib.hid (fun h1 h2 => HS3.out p b HT.out hTp hp0 h1 h2)
          rw [← hd] at hQp
          obtain ⟨z, hz⟩ : ∃ z, C d = z := ⟨_, rfl⟩
          have LD : Hid (W2.cell? ⟨g, d, none⟩ = some (.int .i64 z) ∧ g < W2.heap.size) := ⟨by rw [(NR1.out.on HU.out).cell d hdk, hz], (NR1.out.on HU.out).hb⟩
          have LL : Hid (W2.cell? ⟨g, left, none⟩ = some (.int .i64 y) ∧ g < W2.heap.size) := ⟨by rw [HU.out.cell (p := ⟨g, left, none⟩) LC.out.2]; exact LC.out.1, LD.out.2⟩
          rw [hz] at hQp
          clear U hd hz HT
          obtain ⟨s, hs⟩ : ∃ s, F p = s := ⟨_, rfl⟩
          rw [hs] at CSp hQq
          have HQQ := Lib.hid (And.intro hQp hQq)
          clear hs hQp hQq
          by_cases hA : p &&& lw = 0
          · have q1 : (((p &&& lw : Nat) : Int) == 0) = true := by rw [hA]; rfl
            have T2 := Lib.hid (HSK.out (fun hc => (HQQ.out.2.1 (HQQ.out.1.1 hc).1).2.1 hA))
            clear HSK HTK HSY hA HQQ hTp
            generalize p &&& lw = u at *
            generalize hv : (p - 1) &&& left = v at *
            go_upto_region 15 with fail
            refine wp_region_each (fun L A W => ∃ (v : Nat → Value), A = ⟨#[_, _, _, _, _, _, _, _, _, _, _, _, _, _, _, _, _, _, _, _, _, _, _, _, _, _, _, _, _, _, _, _, _, _, _, _, _, v 37, v 38, v 39, v 40, v 41, v 42, v 43, v 44, v 45, v 46, v 47, v 48, v 49, v 50, v 51, v 52, v 53, v 54, v 55, v 56, v 57, v 58, v 59, v 60, v 61, v 62, v 63, _, _, _, _, _, _, _, _, _, _, _, _, _, _, _, _, _, _, _, _, _, _], []⟩ ∧ RpaR g M cp left p lw u 0 0 0 0 0 true (.slice ra n c) W2 L v W) (by kernel_rfl) (by kernel_rfl) ⟨fun jz => if jz = 37 then u37 else if jz = 38 then u38 else if jz = 39 then u39 else if jz = 40 then u40 else if jz = 41 then u41 else if jz = 42 then u42 else if jz = 43 then u43 else if jz = 44 then u44 else if jz = 45 then u45 else if jz = 46 then u46 else if jz = 47 then u47 else if jz = 48 then u48 else if jz = 49 then u49 else if jz = 50 then u50 else if jz = 51 then u51 else if jz = 52 then u52 else if jz = 53 then u53 else if jz = 54 then u54 else if jz = 55 then u55 else if jz = 56 then u56 else if jz = 57 then u57 else if jz = 58 then u58 else if jz = 59 then u59 else if jz = 60 then u60 else if jz = 61 then u61 else if jz = 62 then u62 else if jz = 63 then u63 else undef, rfl, ⟨Below.drew (Below.refl _ _), Had.none, Had.none, Had.none, Had.none, Had.none, Had.none, Had.none, Had.none, Had.none, Had.none, Had.none, Had.none, Had.none, Had.none, Had.none, Had.none, Had.none, Had.none, Had.none, Had.none, Had.none, Had.none, Had.none, Had.none, Had.none, Had.none, Had.none, Had.none, Had.none, Had.none, Had.none, Had.none, Had.none, Had.none, Had.none, Had.none, Had.none, Had.none, Had.none, Had.none, Had.none, Had.none, Had.none, Had.none, Had.none, Had.none, Had.none, Had.none, Had.none, Had.none, Had.none⟩⟩ (rs := [0, 1, 2, 3, 4, 5, 6, 7, 8, 9, 10, 11, 12, 13, 14, 15, 16, 17, 18, 19, 20, 21, 22, 23, 24, 25, 26]) (by kernel_rfl) ?_ ?_
            · refine EachOf.cons [] rfl (by kernel_rfl) ?_ ?_
              · rintro L A W ⟨v, rfl, hR⟩ hi hw K hK
                go_simp
                refine hK.out _ _ ?_
                exact ⟨(fun jz => if jz = 37 then .int .i64 (p : Int) else v jz), rfl, ⟨hR.st, hR.w3.o, hR.w4.o, hR.w5.o, hR.w6.o, hR.w7.o, hR.w8.o, hR.w9.o, hR.w10.o, hR.w11.o, hR.w12.o, hR.w13.o, hR.w14.o, hR.w15.o, hR.w16.o, hR.w17.o, hR.w18.o, hR.w19.o, hR.w20.o, hR.w21.o, hR.w22.o, hR.w23.o, hR.w24.o, hR.w25.o, hR.w26.o, (fun _ => rfl), hR.f1.k, hR.f2.k, hR.f3.k, hR.f4.k, hR.f5.k, hR.f6.k, hR.f7.k, hR.f8.k, hR.f9.k, hR.f10.k, hR.f11.k, hR.f12.k, hR.f13.k, hR.f14.k, hR.f15.k, hR.f16.k, hR.f17.k, hR.f18.k, hR.f19.k, hR.f20.k, hR.f21.k, hR.f22.k, hR.f23.k, hR.f24.k, hR.f25.k, hR.f26.k⟩⟩
              refine EachOf.cons [] rfl (by kernel_rfl) ?_ ?_
              · rintro L A W ⟨v, rfl, hR⟩ hi hw K hK
                go_simp
                refine hK.out _ _ ?_
                exact ⟨(fun jz => if jz = 38 then .int .i64 (left : Int) else v jz), rfl, ⟨hR.st, hR.w3.o, hR.w4.o, hR.w5.o, hR.w6.o, hR.w7.o, hR.w8.o, hR.w9.o, hR.w10.o, hR.w11.o, hR.w12.o, hR.w13.o, hR.w14.o, hR.w15.o, hR.w16.o, hR.w17.o, hR.w18.o, hR.w19.o, hR.w20.o, hR.w21.o, hR.w22.o, hR.w23.o, hR.w24.o, hR.w25.o, hR.w26.o, hR.f0.k, (fun _ => rfl), hR.f2.k, hR.f3.k, hR.f4.k, hR.f5.k, hR.f6.k, hR.f7.k, hR.f8.k, hR.f9.k, hR.f10.k, hR.f11.k, hR.f12.k, hR.f13.k, hR.f14.k, hR.f15.k, hR.f16.k, hR.f17.k, hR.f18.k, hR.f19.k, hR.f20.k, hR.f21.k, hR.f22.k, hR.f23.k, hR.f24.k, hR.f25.k, hR.f26.k⟩⟩
              refine EachOf.cons [] rfl (by kernel_rfl) ?_ ?_
              · rintro L A W ⟨v, rfl, hR⟩ hi hw K hK
                go_simp
                refine hK.out _ _ ?_
                exact ⟨(fun jz => if jz = 39 then .int .i64 (left : Int) else v jz), rfl, ⟨hR.st, hR.w3.o, hR.w4.o, hR.w5.o, hR.w6.o, hR.w7.o, hR.w8.o, hR.w9.o, hR.w10.o, hR.w11.o, hR.w12.o, hR.w13.o, hR.w14.o, hR.w15.o, hR.w16.o, hR.w17.o, hR.w18.o, hR.w19.o, hR.w20.o, hR.w21.o, hR.w22.o, hR.w23.o, hR.w24.o, hR.w25.o, hR.w26.o, hR.f0.k, hR.f1.k, (fun _ => rfl), hR.f3.k, hR.f4.k, hR.f5.k, hR.f6.k, hR.f7.k, hR.f8.k, hR.f9.k, hR.f10.k, hR.f11.k, hR.f12.k, hR.f13.k, hR.f14.k, hR.f15.k, hR.f16.k, hR.f17.k, hR.f18.k, hR.f19.k, hR.f20.k, hR.f21.k, hR.f22.k, hR.f23.k, hR.f24.k, hR.f25.k, hR.f26.k⟩⟩
              refine EachOf.cons [2] rfl (by kernel_rfl) ?_ ?_
              · rintro L A W ⟨v, rfl, hR⟩ hi hw K hK
                have e2 := hR.f2 (hw 2 (by simp))
                simp only [e2]
                clear e2
                go_simp
                refine hK.out _ _ ?_
                exact ⟨(fun jz => if jz = 39 then .int .i64 (left : Int) else if jz = 40 then .int .i64 (-(left : Int)) else v jz), rfl, ⟨hR.st, (fun _ j hj => upd_on (hw j hj)), hR.w4.o, hR.w5.o, hR.w6.o, hR.w7.o, hR.w8.o, hR.w9.o, hR.w10.o, hR.w11.o, hR.w12.o, hR.w13.o, hR.w14.o, hR.w15.o, hR.w16.o, hR.w17.o, hR.w18.o, hR.w19.o, hR.w20.o, hR.w21.o, hR.w22.o, hR.w23.o, hR.w24.o, hR.w25.o, hR.w26.o, hR.f0.k, hR.f1.k, (fun _ => rfl), (fun _ => rfl), hR.f4.k, hR.f5.k, hR.f6.k, hR.f7.k, hR.f8.k, hR.f9.k, hR.f10.k, hR.f11.k, hR.f12.k, hR.f13.k, hR.f14.k, hR.f15.k, hR.f16.k, hR.f17.k, hR.f18.k, hR.f19.k, hR.f20.k, hR.f21.k, hR.f22.k, hR.f23.k, hR.f24.k, hR.f25.k, hR.f26.k⟩⟩
              refine EachOf.cons [1, 3] rfl (by kernel_rfl) ?_ ?_
              · rintro L A W ⟨v, rfl, hR⟩ hi hw K hK
                have e1 := hR.f1 (hw 1 (by simp))
                have e3 := hR.f3 (hw 3 (by simp))
                simp only [e1, e3]
                clear e1 e3
                go_simp
                refine hK.out _ _ ?_
                exact ⟨(fun jz => if jz = 38 then .int .i64 (left : Int) else if jz = 40 then .int .i64 (-(left : Int)) else if jz = 41 then .int .i64 (lw : Int) else v jz), rfl, ⟨hR.st, hR.w3.o, (fun _ j hj => upd_on (hw j hj)), hR.w5.o, hR.w6.o, hR.w7.o, hR.w8.o, hR.w9.o, hR.w10.o, hR.w11.o, hR.w12.o, hR.w13.o, hR.w14.o, hR.w15.o, hR.w16.o, hR.w17.o, hR.w18.o, hR.w19.o, hR.w20.o, hR.w21.o, hR.w22.o, hR.w23.o, hR.w24.o, hR.w25.o, hR.w26.o, hR.f0.k, (fun _ => rfl), hR.f2.k, (fun _ => rfl), (fun _ => rfl), hR.f5.k, hR.f6.k, hR.f7.k, hR.f8.k, hR.f9.k, hR.f10.k, hR.f11.k, hR.f12.k, hR.f13.k, hR.f14.k, hR.f15.k, hR.f16.k, hR.f17.k, hR.f18.k, hR.f19.k, hR.f20.k, hR.f21.k, hR.f22.k, hR.f23.k, hR.f24.k, hR.f25.k, hR.f26.k⟩⟩
              refine EachOf.cons [0, 4] rfl (by kernel_rfl) ?_ ?_
              · rintro L A W ⟨v, rfl, hR⟩ hi hw K hK
                have e0 := hR.f0 (hw 0 (by simp))
                have e4 := hR.f4 (hw 4 (by simp))
                simp only [e0, e4]
                clear e0 e4
                go_simp
                refine hK.out _ _ ?_
                exact ⟨(fun jz => if jz = 37 then .int .i64 (p : Int) else if jz = 41 then .int .i64 (lw : Int) else if jz = 42 then .int .i64 (u : Int) else v jz), rfl, ⟨hR.st, hR.w3.o, hR.w4.o, (fun _ j hj => upd_on (hw j hj)), hR.w6.o, hR.w7.o, hR.w8.o, hR.w9.o, hR.w10.o, hR.w11.o, hR.w12.o, hR.w13.o, hR.w14.o, hR.w15.o, hR.w16.o, hR.w17.o, hR.w18.o, hR.w19.o, hR.w20.o, hR.w21.o, hR.w22.o, hR.w23.o, hR.w24.o, hR.w25.o, hR.w26.o, (fun _ => rfl), hR.f1.k, hR.f2.k, hR.f3.k, (fun _ => rfl), (fun _ => rfl), hR.f6.k, hR.f7.k, hR.f8.k, hR.f9.k, hR.f10.k, hR.f11.k, hR.f12.k, hR.f13.k, hR.f14.k, hR.f15.k, hR.f16.k, hR.f17.k, hR.f18.k, hR.f19.k, hR.f20.k, hR.f21.k, hR.f22.k, hR.f23.k, hR.f24.k, hR.f25.k, hR.f26.k⟩⟩
              refine EachOf.cons [5] rfl (by kernel_rfl) ?_ ?_
              · rintro L A W ⟨v, rfl, hR⟩ hi hw K hK
                have e5 := hR.f5 (hw 5 (by simp))
                simp only [e5]
                clear e5
                go_simp
                refine hK.out _ _ ?_
                exact ⟨(fun jz => if jz = 42 then .int .i64 (u : Int) else if jz = 43 then .bool true else v jz), rfl, ⟨hR.st, hR.w3.o, hR.w4.o, hR.w5.o, (fun _ j hj => upd_on (hw j hj)), hR.w7.o, hR.w8.o, hR.w9.o, hR.w10.o, hR.w11.o, hR.w12.o, hR.w13.o, hR.w14.o, hR.w15.o, hR.w16.o, hR.w17.o, hR.w18.o, hR.w19.o, hR.w20.o, hR.w21.o, hR.w22.o, hR.w23.o, hR.w24.o, hR.w25.o, hR.w26.o, hR.f0.k, hR.f1.k, hR.f2.k, hR.f3.k, hR.f4.k, (fun _ => rfl), (fun _ => rfl), hR.f7.k, hR.f8.k, hR.f9.k, hR.f10.k, hR.f11.k, hR.f12.k, hR.f13.k, hR.f14.k, hR.f15.k, hR.f16.k, hR.f17.k, hR.f18.k, hR.f19.k, hR.f20.k, hR.f21.k, hR.f22.k, hR.f23.k, hR.f24.k, hR.f25.k, hR.f26.k⟩⟩
              refine EachOf.cons [6] rfl (by kernel_rfl) ?_ ?_
              · rintro L A W ⟨v, rfl, hR⟩ hi hw K hK
                have e6 := hR.f6 (hw 6 (by simp))
                simp only [e6]
                clear e6
                go_simp
                refine hK.out _ _ ?_
                exact ⟨(fun jz => if jz = 43 then .bool true else if jz = 44 then .bool true else v jz), rfl, ⟨hR.st, hR.w3.o, hR.w4.o, hR.w5.o, hR.w6.o, (fun _ j hj => upd_on (hw j hj)), hR.w8.o, hR.w9.o, hR.w10.o, hR.w11.o, hR.w12.o, hR.w13.o, hR.w14.o, hR.w15.o, hR.w16.o, hR.w17.o, hR.w18.o, hR.w19.o, hR.w20.o, hR.w21.o, hR.w22.o, hR.w23.o, hR.w24.o, hR.w25.o, hR.w26.o, hR.f0.k, hR.f1.k, hR.f2.k, hR.f3.k, hR.f4.k, hR.f5.k, (fun _ => rfl), (fun _ => rfl), hR.f8.k, hR.f9.k, hR.f10.k, hR.f11.k, hR.f12.k, hR.f13.k, hR.f14.k, hR.f15.k, hR.f16.k, hR.f17.k, hR.f18.k, hR.f19.k, hR.f20.k, hR.f21.k, hR.f22.k, hR.f23.k, hR.f24.k, hR.f25.k, hR.f26.k⟩⟩
              refine EachOf.cons [7] rfl (by kernel_rfl) ?_ ?_
              · rintro L A W ⟨v, rfl, hR⟩ hi hw K hK
                have e7 := hR.f7 (hw 7 (by simp))
                simp only [e7]
                clear e7
                go_simp
                refine hK.out _ _ ?_
                exact ⟨(fun jz => if jz = 44 then .bool true else if jz = 45 then undef else v jz), rfl, ⟨hR.st, hR.w3.o, hR.w4.o, hR.w5.o, hR.w6.o, hR.w7.o, (fun _ j hj => upd_on (hw j hj)), hR.w9.o, hR.w10.o, hR.w11.o, hR.w12.o, hR.w13.o, hR.w14.o, hR.w15.o, hR.w16.o, hR.w17.o, hR.w18.o, hR.w19.o, hR.w20.o, hR.w21.o, hR.w22.o, hR.w23.o, hR.w24.o, hR.w25.o, hR.w26.o, hR.f0.k, hR.f1.k, hR.f2.k, hR.f3.k, hR.f4.k, hR.f5.k, hR.f6.k, (fun _ => rfl), (fun _ => rfl), hR.f9.k, hR.f10.k, hR.f11.k, hR.f12.k, hR.f13.k, hR.f14.k, hR.f15.k, hR.f16.k, hR.f17.k, hR.f18.k, hR.f19.k, hR.f20.k, hR.f21.k, hR.f22.k, hR.f23.k, hR.f24.k, hR.f25.k, hR.f26.k⟩⟩
              refine EachOf.cons [7] rfl (by kernel_rfl) ?_ ?_
              · rintro L A W ⟨v, rfl, hR⟩ hi hw K hK
                have e7 := hR.f7 (hw 7 (by simp))
                simp only [e7]
                clear e7
                go_simp
                refine hK.out _ _ ?_
                exact ⟨(fun jz => if jz = 44 then .bool true else if jz = 46 then undef else v jz), rfl, ⟨hR.st, hR.w3.o, hR.w4.o, hR.w5.o, hR.w6.o, hR.w7.o, hR.w8.o, (fun _ j hj => upd_on (hw j hj)), hR.w10.o, hR.w11.o, hR.w12.o, hR.w13.o, hR.w14.o, hR.w15.o, hR.w16.o, hR.w17.o, hR.w18.o, hR.w19.o, hR.w20.o, hR.w21.o, hR.w22.o, hR.w23.o, hR.w24.o, hR.w25.o, hR.w26.o, hR.f0.k, hR.f1.k, hR.f2.k, hR.f3.k, hR.f4.k, hR.f5.k, hR.f6.k, (fun _ => rfl), hR.f8.k, (fun _ => rfl), hR.f10.k, hR.f11.k, hR.f12.k, hR.f13.k, hR.f14.k, hR.f15.k, hR.f16.k, hR.f17.k, hR.f18.k, hR.f19.k, hR.f20.k, hR.f21.k, hR.f22.k, hR.f23.k, hR.f24.k, hR.f25.k, hR.f26.k⟩⟩
              refine EachOf.cons [7, 8, 9] rfl (by kernel_rfl) ?_ ?_
              · rintro L A W ⟨v, rfl, hR⟩ hi hw K hK
                have e8 := hR.f8 (hw 8 (by simp))
                have e9 := hR.f9 (hw 9 (by simp))
                have e7 := hR.f7 (hw 7 (by simp))
                simp only [e8, e9, e7]
                clear e8 e9 e7
                go_simp
                refine hK.out _ _ ?_
                exact ⟨(fun jz => if jz = 45 then undef else if jz = 46 then undef else if jz = 44 then .bool true else if jz = 47 then undef else v jz), rfl, ⟨hR.st, hR.w3.o, hR.w4.o, hR.w5.o, hR.w6.o, hR.w7.o, hR.w8.o, hR.w9.o, (fun _ j hj => upd_on (hw j hj)), hR.w11.o, hR.w12.o, hR.w13.o, hR.w14.o, hR.w15.o, hR.w16.o, hR.w17.o, hR.w18.o, hR.w19.o, hR.w20.o, hR.w21.o, hR.w22.o, hR.w23.o, hR.w24.o, hR.w25.o, hR.w26.o, hR.f0.k, hR.f1.k, hR.f2.k, hR.f3.k, hR.f4.k, hR.f5.k, hR.f6.k, (fun _ => rfl), (fun _ => rfl), (fun _ => rfl), (fun _ => rfl), hR.f11.k, hR.f12.k, hR.f13.k, hR.f14.k, hR.f15.k, hR.f16.k, hR.f17.k, hR.f18.k, hR.f19.k, hR.f20.k, hR.f21.k, hR.f22.k, hR.f23.k, hR.f24.k, hR.f25.k, hR.f26.k⟩⟩
              refine EachOf.cons [7, 10] rfl (by kernel_rfl) ?_ ?_
              · rintro L A W ⟨v, rfl, hR⟩ hi hw K hK
                have e10 := hR.f10 (hw 10 (by simp))
                have e7 := hR.f7 (hw 7 (by simp))
                simp only [e10, e7]
                clear e10 e7
                go_simp
                refine hK.out _ _ ?_
                exact ⟨(fun jz => if jz = 47 then undef else if jz = 44 then .bool true else if jz = 48 then undef else v jz), rfl, ⟨hR.st, hR.w3.o, hR.w4.o, hR.w5.o, hR.w6.o, hR.w7.o, hR.w8.o, hR.w9.o, hR.w10.o, (fun _ j hj => upd_on (hw j hj)), hR.w12.o, hR.w13.o, hR.w14.o, hR.w15.o, hR.w16.o, hR.w17.o, hR.w18.o, hR.w19.o, hR.w20.o, hR.w21.o, hR.w22.o, hR.w23.o, hR.w24.o, hR.w25.o, hR.w26.o, hR.f0.k, hR.f1.k, hR.f2.k, hR.f3.k, hR.f4.k, hR.f5.k, hR.f6.k, (fun _ => rfl), hR.f8.k, hR.f9.k, (fun _ => rfl), (fun _ => rfl), hR.f12.k, hR.f13.k, hR.f14.k, hR.f15.k, hR.f16.k, hR.f17.k, hR.f18.k, hR.f19.k, hR.f20.k, hR.f21.k, hR.f22.k, hR.f23.k, hR.f24.k, hR.f25.k, hR.f26.k⟩⟩
              refine EachOf.cons [7, 11] rfl (by kernel_rfl) ?_ ?_
              · rintro L A W ⟨v, rfl, hR⟩ hi hw K hK
                have e7 := hR.f7 (hw 7 (by simp))
                have e11 := hR.f11 (hw 11 (by simp))
                simp only [e7, e11]
                clear e7 e11
                go_simp
                refine hK.out _ _ ?_
                exact ⟨(fun jz => if jz = 44 then .bool true else if jz = 48 then undef else if jz = 49 then .bool true else v jz), rfl, ⟨hR.st, hR.w3.o, hR.w4.o, hR.w5.o, hR.w6.o, hR.w7.o, hR.w8.o, hR.w9.o, hR.w10.o, hR.w11.o, (fun _ j hj => upd_on (hw j hj)), hR.w13.o, hR.w14.o, hR.w15.o, hR.w16.o, hR.w17.o, hR.w18.o, hR.w19.o, hR.w20.o, hR.w21.o, hR.w22.o, hR.w23.o, hR.w24.o, hR.w25.o, hR.w26.o, hR.f0.k, hR.f1.k, hR.f2.k, hR.f3.k, hR.f4.k, hR.f5.k, hR.f6.k, (fun _ => rfl), hR.f8.k, hR.f9.k, hR.f10.k, (fun _ => rfl), (fun _ => rfl), hR.f13.k, hR.f14.k, hR.f15.k, hR.f16.k, hR.f17.k, hR.f18.k, hR.f19.k, hR.f20.k, hR.f21.k, hR.f22.k, hR.f23.k, hR.f24.k, hR.f25.k, hR.f26.k⟩⟩
              refine EachOf.cons [12] rfl (by kernel_rfl) ?_ ?_
              · rintro L A W ⟨v, rfl, hR⟩ hi hw K hK
                have e12 := hR.f12 (hw 12 (by simp))
                simp only [e12]
                clear e12
                go_simp
                refine hK.out _ _ ?_
                exact ⟨(fun jz => if jz = 49 then .bool true else if jz = 50 then .bool true else v jz), rfl, ⟨hR.st, hR.w3.o, hR.w4.o, hR.w5.o, hR.w6.o, hR.w7.o, hR.w8.o, hR.w9.o, hR.w10.o, hR.w11.o, hR.w12.o, (fun _ j hj => upd_on (hw j hj)), hR.w14.o, hR.w15.o, hR.w16.o, hR.w17.o, hR.w18.o, hR.w19.o, hR.w20.o, hR.w21.o, hR.w22.o, hR.w23.o, hR.w24.o, hR.w25.o, hR.w26.o, hR.f0.k, hR.f1.k, hR.f2.k, hR.f3.k, hR.f4.k, hR.f5.k, hR.f6.k, hR.f7.k, hR.f8.k, hR.f9.k, hR.f10.k, hR.f11.k, (fun _ => rfl), (fun _ => rfl), hR.f14.k, hR.f15.k, hR.f16.k, hR.f17.k, hR.f18.k, hR.f19.k, hR.f20.k, hR.f21.k, hR.f22.k, hR.f23.k, hR.f24.k, hR.f25.k, hR.f26.k⟩⟩
              refine EachOf.cons [13] rfl (by kernel_rfl) ?_ ?_
              · rintro L A W ⟨v, rfl, hR⟩ hi hw K hK
                have e13 := hR.f13 (hw 13 (by simp))
                simp only [e13]
                clear e13
                go_simp
                refine hK.out _ _ ?_
                exact ⟨(fun jz => if jz = 50 then .bool true else if jz = 51 then undef else v jz), rfl, ⟨hR.st, hR.w3.o, hR.w4.o, hR.w5.o, hR.w6.o, hR.w7.o, hR.w8.o, hR.w9.o, hR.w10.o, hR.w11.o, hR.w12.o, hR.w13.o, (fun _ j hj => upd_on (hw j hj)), hR.w15.o, hR.w16.o, hR.w17.o, hR.w18.o, hR.w19.o, hR.w20.o, hR.w21.o, hR.w22.o, hR.w23.o, hR.w24.o, hR.w25.o, hR.w26.o, hR.f0.k, hR.f1.k, hR.f2.k, hR.f3.k, hR.f4.k, hR.f5.k, hR.f6.k, hR.f7.k, hR.f8.k, hR.f9.k, hR.f10.k, hR.f11.k, hR.f12.k, (fun _ => rfl), (fun _ => rfl), hR.f15.k, hR.f16.k, hR.f17.k, hR.f18.k, hR.f19.k, hR.f20.k, hR.f21.k, hR.f22.k, hR.f23.k, hR.f24.k, hR.f25.k, hR.f26.k⟩⟩
              refine EachOf.cons [13] rfl (by kernel_rfl) ?_ ?_
              · rintro L A W ⟨v, rfl, hR⟩ hi hw K hK
                have e13 := hR.f13 (hw 13 (by simp))
                simp only [e13]
                clear e13
                go_simp
                refine hK.out _ _ ?_
                exact ⟨(fun jz => if jz = 50 then .bool true else if jz = 52 then undef else v jz), rfl, ⟨hR.st, hR.w3.o, hR.w4.o, hR.w5.o, hR.w6.o, hR.w7.o, hR.w8.o, hR.w9.o, hR.w10.o, hR.w11.o, hR.w12.o, hR.w13.o, hR.w14.o, (fun _ j hj => upd_on (hw j hj)), hR.w16.o, hR.w17.o, hR.w18.o, hR.w19.o, hR.w20.o, hR.w21.o, hR.w22.o, hR.w23.o, hR.w24.o, hR.w25.o, hR.w26.o, hR.f0.k, hR.f1.k, hR.f2.k, hR.f3.k, hR.f4.k, hR.f5.k, hR.f6.k, hR.f7.k, hR.f8.k, hR.f9.k, hR.f10.k, hR.f11.k, hR.f12.k, (fun _ => rfl), hR.f14.k, (fun _ => rfl), hR.f16.k, hR.f17.k, hR.f18.k, hR.f19.k, hR.f20.k, hR.f21.k, hR.f22.k, hR.f23.k, hR.f24.k, hR.f25.k, hR.f26.k⟩⟩
              refine EachOf.cons [13] rfl (by kernel_rfl) ?_ ?_
              · rintro L A W ⟨v, rfl, hR⟩ hi hw K hK
                have e13 := hR.f13 (hw 13 (by simp))
                simp only [e13]
                clear e13
                go_simp
                refine hK.out _ _ ?_
                exact ⟨(fun jz => if jz = 50 then .bool true else if jz = 53 then undef else v jz), rfl, ⟨hR.st, hR.w3.o, hR.w4.o, hR.w5.o, hR.w6.o, hR.w7.o, hR.w8.o, hR.w9.o, hR.w10.o, hR.w11.o, hR.w12.o, hR.w13.o, hR.w14.o, hR.w15.o, (fun _ j hj => upd_on (hw j hj)), hR.w17.o, hR.w18.o, hR.w19.o, hR.w20.o, hR.w21.o, hR.w22.o, hR.w23.o, hR.w24.o, hR.w25.o, hR.w26.o, hR.f0.k, hR.f1.k, hR.f2.k, hR.f3.k, hR.f4.k, hR.f5.k, hR.f6.k, hR.f7.k, hR.f8.k, hR.f9.k, hR.f10.k, hR.f11.k, hR.f12.k, (fun _ => rfl), hR.f14.k, hR.f15.k, (fun _ => rfl), hR.f17.k, hR.f18.k, hR.f19.k, hR.f20.k, hR.f21.k, hR.f22.k, hR.f23.k, hR.f24.k, hR.f25.k, hR.f26.k⟩⟩
              refine EachOf.cons [13, 15, 16] rfl (by kernel_rfl) ?_ ?_
              · rintro L A W ⟨v, rfl, hR⟩ hi hw K hK
                have e15 := hR.f15 (hw 15 (by simp))
                have e16 := hR.f16 (hw 16 (by simp))
                have e13 := hR.f13 (hw 13 (by simp))
                simp only [e15, e16, e13]
                clear e15 e16 e13
                go_simp
                refine hK.out _ _ ?_
                exact ⟨(fun jz => if jz = 52 then undef else if jz = 53 then undef else if jz = 50 then .bool true else if jz = 54 then undef else v jz), rfl, ⟨hR.st, hR.w3.o, hR.w4.o, hR.w5.o, hR.w6.o, hR.w7.o, hR.w8.o, hR.w9.o, hR.w10.o, hR.w11.o, hR.w12.o, hR.w13.o, hR.w14.o, hR.w15.o, hR.w16.o, (fun _ j hj => upd_on (hw j hj)), hR.w18.o, hR.w19.o, hR.w20.o, hR.w21.o, hR.w22.o, hR.w23.o, hR.w24.o, hR.w25.o, hR.w26.o, hR.f0.k, hR.f1.k, hR.f2.k, hR.f3.k, hR.f4.k, hR.f5.k, hR.f6.k, hR.f7.k, hR.f8.k, hR.f9.k, hR.f10.k, hR.f11.k, hR.f12.k, (fun _ => rfl), hR.f14.k, (fun _ => rfl), (fun _ => rfl), (fun _ => rfl), hR.f18.k, hR.f19.k, hR.f20.k, hR.f21.k, hR.f22.k, hR.f23.k, hR.f24.k, hR.f25.k, hR.f26.k⟩⟩
              refine EachOf.cons [13, 14, 17] rfl (by kernel_rfl) ?_ ?_
              · rintro L A W ⟨v, rfl, hR⟩ hi hw K hK
                have e14 := hR.f14 (hw 14 (by simp))
                have e17 := hR.f17 (hw 17 (by simp))
                have e13 := hR.f13 (hw 13 (by simp))
                simp only [e14, e17, e13]
                clear e14 e17 e13
                go_simp
                refine hK.out _ _ ?_
                exact ⟨(fun jz => if jz = 51 then undef else if jz = 54 then undef else if jz = 50 then .bool true else if jz = 55 then undef else v jz), rfl, ⟨hR.st, hR.w3.o, hR.w4.o, hR.w5.o, hR.w6.o, hR.w7.o, hR.w8.o, hR.w9.o, hR.w10.o, hR.w11.o, hR.w12.o, hR.w13.o, hR.w14.o, hR.w15.o, hR.w16.o, hR.w17.o, (fun _ j hj => upd_on (hw j hj)), hR.w19.o, hR.w20.o, hR.w21.o, hR.w22.o, hR.w23.o, hR.w24.o, hR.w25.o, hR.w26.o, hR.f0.k, hR.f1.k, hR.f2.k, hR.f3.k, hR.f4.k, hR.f5.k, hR.f6.k, hR.f7.k, hR.f8.k, hR.f9.k, hR.f10.k, hR.f11.k, hR.f12.k, (fun _ => rfl), (fun _ => rfl), hR.f15.k, hR.f16.k, (fun _ => rfl), (fun _ => rfl), hR.f19.k, hR.f20.k, hR.f21.k, hR.f22.k, hR.f23.k, hR.f24.k, hR.f25.k, hR.f26.k⟩⟩
              refine EachOf.cons [13, 18] rfl (by kernel_rfl) ?_ ?_
              · rintro L A W ⟨v, rfl, hR⟩ hi hw K hK
                have e18 := hR.f18 (hw 18 (by simp))
                have e13 := hR.f13 (hw 13 (by simp))
                simp only [e18, e13]
                clear e18 e13
                go_simp
                refine hK.out _ _ ?_
                exact ⟨(fun jz => if jz = 55 then undef else if jz = 50 then .bool true else if jz = 56 then undef else v jz), rfl, ⟨hR.st, hR.w3.o, hR.w4.o, hR.w5.o, hR.w6.o, hR.w7.o, hR.w8.o, hR.w9.o, hR.w10.o, hR.w11.o, hR.w12.o, hR.w13.o, hR.w14.o, hR.w15.o, hR.w16.o, hR.w17.o, hR.w18.o, (fun _ j hj => upd_on (hw j hj)), hR.w20.o, hR.w21.o, hR.w22.o, hR.w23.o, hR.w24.o, hR.w25.o, hR.w26.o, hR.f0.k, hR.f1.k, hR.f2.k, hR.f3.k, hR.f4.k, hR.f5.k, hR.f6.k, hR.f7.k, hR.f8.k, hR.f9.k, hR.f10.k, hR.f11.k, hR.f12.k, (fun _ => rfl), hR.f14.k, hR.f15.k, hR.f16.k, hR.f17.k, (fun _ => rfl), (fun _ => rfl), hR.f20.k, hR.f21.k, hR.f22.k, hR.f23.k, hR.f24.k, hR.f25.k, hR.f26.k⟩⟩
              refine EachOf.cons [13] rfl (by kernel_rfl) ?_ ?_
              · rintro L A W ⟨v, rfl, hR⟩ hi hw K hK
                have e13 := hR.f13 (hw 13 (by simp))
                simp only [e13]
                clear e13
                go_simp
                refine hK.out _ _ ?_
                exact ⟨(fun jz => if jz = 50 then .bool true else if jz = 57 then undef else v jz), rfl, ⟨hR.st, hR.w3.o, hR.w4.o, hR.w5.o, hR.w6.o, hR.w7.o, hR.w8.o, hR.w9.o, hR.w10.o, hR.w11.o, hR.w12.o, hR.w13.o, hR.w14.o, hR.w15.o, hR.w16.o, hR.w17.o, hR.w18.o, hR.w19.o, (fun _ j hj => upd_on (hw j hj)), hR.w21.o, hR.w22.o, hR.w23.o, hR.w24.o, hR.w25.o, hR.w26.o, hR.f0.k, hR.f1.k, hR.f2.k, hR.f3.k, hR.f4.k, hR.f5.k, hR.f6.k, hR.f7.k, hR.f8.k, hR.f9.k, hR.f10.k, hR.f11.k, hR.f12.k, (fun _ => rfl), hR.f14.k, hR.f15.k, hR.f16.k, hR.f17.k, hR.f18.k, hR.f19.k, (fun _ => rfl), hR.f21.k, hR.f22.k, hR.f23.k, hR.f24.k, hR.f25.k, hR.f26.k⟩⟩
              refine EachOf.cons [13] rfl (by kernel_rfl) ?_ ?_
              · rintro L A W ⟨v, rfl, hR⟩ hi hw K hK
                have e13 := hR.f13 (hw 13 (by simp))
                simp only [e13]
                clear e13
                go_simp
                refine hK.out _ _ ?_
                exact ⟨(fun jz => if jz = 50 then .bool true else if jz = 58 then undef else v jz), rfl, ⟨hR.st, hR.w3.o, hR.w4.o, hR.w5.o, hR.w6.o, hR.w7.o, hR.w8.o, hR.w9.o, hR.w10.o, hR.w11.o, hR.w12.o, hR.w13.o, hR.w14.o, hR.w15.o, hR.w16.o, hR.w17.o, hR.w18.o, hR.w19.o, hR.w20.o, (fun _ j hj => upd_on (hw j hj)), hR.w22.o, hR.w23.o, hR.w24.o, hR.w25.o, hR.w26.o, hR.f0.k, hR.f1.k, hR.f2.k, hR.f3.k, hR.f4.k, hR.f5.k, hR.f6.k, hR.f7.k, hR.f8.k, hR.f9.k, hR.f10.k, hR.f11.k, hR.f12.k, (fun _ => rfl), hR.f14.k, hR.f15.k, hR.f16.k, hR.f17.k, hR.f18.k, hR.f19.k, hR.f20.k, (fun _ => rfl), hR.f22.k, hR.f23.k, hR.f24.k, hR.f25.k, hR.f26.k⟩⟩
              refine EachOf.cons [13, 20, 21] rfl (by kernel_rfl) ?_ ?_
              · rintro L A W ⟨v, rfl, hR⟩ hi hw K hK
                have e20 := hR.f20 (hw 20 (by simp))
                have e21 := hR.f21 (hw 21 (by simp))
                have e13 := hR.f13 (hw 13 (by simp))
                simp only [e20, e21, e13]
                clear e20 e21 e13
                go_simp
                refine hK.out _ _ ?_
                exact ⟨(fun jz => if jz = 57 then undef else if jz = 58 then undef else if jz = 50 then .bool true else if jz = 59 then undef else v jz), rfl, ⟨hR.st, hR.w3.o, hR.w4.o, hR.w5.o, hR.w6.o, hR.w7.o, hR.w8.o, hR.w9.o, hR.w10.o, hR.w11.o, hR.w12.o, hR.w13.o, hR.w14.o, hR.w15.o, hR.w16.o, hR.w17.o, hR.w18.o, hR.w19.o, hR.w20.o, hR.w21.o, (fun _ j hj => upd_on (hw j hj)), hR.w23.o, hR.w24.o, hR.w25.o, hR.w26.o, hR.f0.k, hR.f1.k, hR.f2.k, hR.f3.k, hR.f4.k, hR.f5.k, hR.f6.k, hR.f7.k, hR.f8.k, hR.f9.k, hR.f10.k, hR.f11.k, hR.f12.k, (fun _ => rfl), hR.f14.k, hR.f15.k, hR.f16.k, hR.f17.k, hR.f18.k, hR.f19.k, (fun _ => rfl), (fun _ => rfl), (fun _ => rfl), hR.f23.k, hR.f24.k, hR.f25.k, hR.f26.k⟩⟩
              refine EachOf.cons [13, 22] rfl (by kernel_rfl) ?_ ?_
              · rintro L A W ⟨v, rfl, hR⟩ hi hw K hK
                have e22 := hR.f22 (hw 22 (by simp))
                have e13 := hR.f13 (hw 13 (by simp))
                simp only [e22, e13]
                clear e22 e13
                go_simp
                refine hK.out _ _ ?_
                exact ⟨(fun jz => if jz = 59 then undef else if jz = 50 then .bool true else if jz = 60 then undef else v jz), rfl, ⟨hR.st, hR.w3.o, hR.w4.o, hR.w5.o, hR.w6.o, hR.w7.o, hR.w8.o, hR.w9.o, hR.w10.o, hR.w11.o, hR.w12.o, hR.w13.o, hR.w14.o, hR.w15.o, hR.w16.o, hR.w17.o, hR.w18.o, hR.w19.o, hR.w20.o, hR.w21.o, hR.w22.o, (fun _ j hj => upd_on (hw j hj)), hR.w24.o, hR.w25.o, hR.w26.o, hR.f0.k, hR.f1.k, hR.f2.k, hR.f3.k, hR.f4.k, hR.f5.k, hR.f6.k, hR.f7.k, hR.f8.k, hR.f9.k, hR.f10.k, hR.f11.k, hR.f12.k, (fun _ => rfl), hR.f14.k, hR.f15.k, hR.f16.k, hR.f17.k, hR.f18.k, hR.f19.k, hR.f20.k, hR.f21.k, (fun _ => rfl), (fun _ => rfl), hR.f24.k, hR.f25.k, hR.f26.k⟩⟩
              refine EachOf.cons [13, 23] rfl (by kernel_rfl) ?_ ?_
              · rintro L A W ⟨v, rfl, hR⟩ hi hw K hK
                have e23 := hR.f23 (hw 23 (by simp))
                have e13 := hR.f13 (hw 13 (by simp))
                simp only [e23, e13]
                clear e23 e13
                go_simp
                refine hK.out _ _ ?_
                exact ⟨(fun jz => if jz = 60 then undef else if jz = 50 then .bool true else if jz = 61 then undef else v jz), rfl, ⟨hR.st, hR.w3.o, hR.w4.o, hR.w5.o, hR.w6.o, hR.w7.o, hR.w8.o, hR.w9.o, hR.w10.o, hR.w11.o, hR.w12.o, hR.w13.o, hR.w14.o, hR.w15.o, hR.w16.o, hR.w17.o, hR.w18.o, hR.w19.o, hR.w20.o, hR.w21.o, hR.w22.o, hR.w23.o, (fun _ j hj => upd_on (hw j hj)), hR.w25.o, hR.w26.o, hR.f0.k, hR.f1.k, hR.f2.k, hR.f3.k, hR.f4.k, hR.f5.k, hR.f6.k, hR.f7.k, hR.f8.k, hR.f9.k, hR.f10.k, hR.f11.k, hR.f12.k, (fun _ => rfl), hR.f14.k, hR.f15.k, hR.f16.k, hR.f17.k, hR.f18.k, hR.f19.k, hR.f20.k, hR.f21.k, hR.f22.k, (fun _ => rfl), (fun _ => rfl), hR.f25.k, hR.f26.k⟩⟩
              refine EachOf.cons [13, 19, 24] rfl (by kernel_rfl) ?_ ?_
              · rintro L A W ⟨v, rfl, hR⟩ hi hw K hK
                have e19 := hR.f19 (hw 19 (by simp))
                have e24 := hR.f24 (hw 24 (by simp))
                have e13 := hR.f13 (hw 13 (by simp))
                simp only [e19, e24, e13]
                clear e19 e24 e13
                go_simp
                refine hK.out _ _ ?_
                exact ⟨(fun jz => if jz = 56 then undef else if jz = 61 then undef else if jz = 50 then .bool true else if jz = 62 then undef else v jz), rfl, ⟨hR.st, hR.w3.o, hR.w4.o, hR.w5.o, hR.w6.o, hR.w7.o, hR.w8.o, hR.w9.o, hR.w10.o, hR.w11.o, hR.w12.o, hR.w13.o, hR.w14.o, hR.w15.o, hR.w16.o, hR.w17.o, hR.w18.o, hR.w19.o, hR.w20.o, hR.w21.o, hR.w22.o, hR.w23.o, hR.w24.o, (fun _ j hj => upd_on (hw j hj)), hR.w26.o, hR.f0.k, hR.f1.k, hR.f2.k, hR.f3.k, hR.f4.k, hR.f5.k, hR.f6.k, hR.f7.k, hR.f8.k, hR.f9.k, hR.f10.k, hR.f11.k, hR.f12.k, (fun _ => rfl), hR.f14.k, hR.f15.k, hR.f16.k, hR.f17.k, hR.f18.k, (fun _ => rfl), hR.f20.k, hR.f21.k, hR.f22.k, hR.f23.k, (fun _ => rfl), (fun _ => rfl), hR.f26.k⟩⟩
              refine EachOf.cons [13, 25] rfl (by kernel_rfl) ?_ ?_
              · rintro L A W ⟨v, rfl, hR⟩ hi hw K hK
                have e13 := hR.f13 (hw 13 (by simp))
                have e25 := hR.f25 (hw 25 (by simp))
                simp only [e13, e25]
                clear e13 e25
                go_simp
                refine hK.out _ _ ?_
                exact ⟨(fun jz => if jz = 50 then .bool true else if jz = 62 then undef else if jz = 63 then .bool true else v jz), rfl, ⟨hR.st, hR.w3.o, hR.w4.o, hR.w5.o, hR.w6.o, hR.w7.o, hR.w8.o, hR.w9.o, hR.w10.o, hR.w11.o, hR.w12.o, hR.w13.o, hR.w14.o, hR.w15.o, hR.w16.o, hR.w17.o, hR.w18.o, hR.w19.o, hR.w20.o, hR.w21.o, hR.w22.o, hR.w23.o, hR.w24.o, hR.w25.o, (fun _ j hj => upd_on (hw j hj)), hR.f0.k, hR.f1.k, hR.f2.k, hR.f3.k, hR.f4.k, hR.f5.k, hR.f6.k, hR.f7.k, hR.f8.k, hR.f9.k, hR.f10.k, hR.f11.k, hR.f12.k, (fun _ => rfl), hR.f14.k, hR.f15.k, hR.f16.k, hR.f17.k, hR.f18.k, hR.f19.k, hR.f20.k, hR.f21.k, hR.f22.k, hR.f23.k, hR.f24.k, (fun _ => rfl), (fun _ => rfl)⟩⟩
              exact EachOf.nil
            · rintro L A W ⟨vv, rfl, hR⟩ hall
              have hst := Lib.hid hR.st
              have e26 := hR.f26 (hall 26 (by simp))
              simp only [e26]
              clear hR e26 hall
              go_wp2_with fail
              go_roundg (2 * v)
              case measure => omega
              case rel => exact ⟨v, b, rfl, rfl, rfl, by omega, hb, below_on HU.out hst.out, T2.out, hsub⟩
          · have q1 : (((p &&& lw : Nat) : Int) == 0) = false := by simp; exact hA
            by_cases hs0 : s = 0
            · subst hs0
              by_cases hzy : z = y1
              · have hc : CdQ F C left p := HQQ.out.1.2 ⟨HQQ.out.2.2 ⟨hTp, hA, rfl⟩, hzy⟩
                have q3 : (z != y1) = false := by simp [hzy]
                clear hzy
                have CIp := fun W => CIX p W (by omega)
                have CIb := fun W => CIX b W (by omega)
                rw [show ixs (bitR p) n = LR n p from rfl] at CIp
                rw [show ixs (bitR b) n = LR n b from rfl] at CIb
                have hp16 := LR_le n p
                have hb16 := LR_le n b
                by_cases hb0 : b = 0
                · subst hb0
                  have q4 : (((0 : Nat) : Int) == 0) = true := by decide
                  have T2 := Lib.hid (HTK.out hc (.inl rfl))
                  clear HSK HTK HSY hA HQQ hTp hc CIp CIb hp16 hb16
                  generalize p &&& lw = u at *
                  generalize hv : (p - 1) &&& left = v at *
                  go_upto_region 15 with fail
                  refine wp_region_each (fun L A W => ∃ (v : Nat → Value), A = ⟨#[_, _, _, _, _, _, _, _, _, _, _, _, _, _, _, _, _, _, _, _, _, _, _, _, _, _, _, _, _, _, _, _, _, _, _, _, _, v 37, v 38, v 39, v 40, v 41, v 42, v 43, v 44, v 45, v 46, v 47, v 48, v 49, v 50, v 51, v 52, v 53, v 54, v 55, v 56, v 57, v 58, v 59, v 60, v 61, v 62, v 63, _, _, _, _, _, _, _, _, _, _, _, _, _, _, _, _, _, _, _, _, _, _], []⟩ ∧ RpcR g M cp left p lw u d 0 z y y1 false (.slice ra n c) W2 L v W) (by kernel_rfl) (by kernel_rfl) ⟨fun jz => if jz = 37 then u37 else if jz = 38 then u38 else if jz = 39 then u39 else if jz = 40 then u40 else if jz = 41 then u41 else if jz = 42 then u42 else if jz = 43 then u43 else if jz = 44 then u44 else if jz = 45 then u45 else if jz = 46 then u46 else if jz = 47 then u47 else if jz = 48 then u48 else if jz = 49 then u49 else if jz = 50 then u50 else if jz = 51 then u51 else if jz = 52 then u52 else if jz = 53 then u53 else if jz = 54 then u54 else if jz = 55 then u55 else if jz = 56 then u56 else if jz = 57 then u57 else if jz = 58 then u58 else if jz = 59 then u59 else if jz = 60 then u60 else if jz = 61 then u61 else if jz = 62 then u62 else if jz = 63 then u63 else undef, rfl, ⟨Below.drew (Below.refl _ _), Had.none, Had.none, Had.none, Had.none, Had.none, Had.none, Had.none, Had.none, Had.none, Had.none, Had.none, Had.none, Had.none, Had.none, Had.none, Had.none, Had.none, Had.none, Had.none, Had.none, Had.none, Had.none, Had.none, Had.none, Had.none, Had.none, Had.none, Had.none, Had.none, Had.none, Had.none, Had.none, Had.none, Had.none, Had.none, Had.none, Had.none, Had.none, Had.none, Had.none, Had.none, Had.none, Had.none, Had.none, Had.none, Had.none, Had.none, Had.none, Had.none, Had.none, Had.none⟩⟩ (rs := [0, 1, 2, 3, 4, 5, 6, 7, 8, 9, 10, 11, 12, 13, 14, 15, 16, 17, 18, 19, 20, 21, 22, 23, 24, 25, 26]) (by kernel_rfl) ?_ ?_
                  · refine EachOf.cons [] rfl (by kernel_rfl) ?_ ?_
                    · rintro L A W ⟨v, rfl, hR⟩ hi hw K hK
                      go_simp
                      refine hK.out _ _ ?_
                      exact ⟨(fun jz => if jz = 37 then .int .i64 (p : Int) else v jz), rfl, ⟨hR.st, hR.w3.o, hR.w4.o, hR.w5.o, hR.w6.o, hR.w7.o, hR.w8.o, hR.w9.o, hR.w10.o, hR.w11.o, hR.w12.o, hR.w13.o, hR.w14.o, hR.w15.o, hR.w16.o, hR.w17.o, hR.w18.o, hR.w19.o, hR.w20.o, hR.w21.o, hR.w22.o, hR.w23.o, hR.w24.o, hR.w25.o, hR.w26.o, (fun _ => rfl), hR.f1.k, hR.f2.k, hR.f3.k, hR.f4.k, hR.f5.k, hR.f6.k, hR.f7.k, hR.f8.k, hR.f9.k, hR.f10.k, hR.f11.k, hR.f12.k, hR.f13.k, hR.f14.k, hR.f15.k, hR.f16.k, hR.f17.k, hR.f18.k, hR.f19.k, hR.f20.k, hR.f21.k, hR.f22.k, hR.f23.k, hR.f24.k, hR.f25.k, hR.f26.k⟩⟩
                    refine EachOf.cons [] rfl (by kernel_rfl) ?_ ?_
                    · rintro L A W ⟨v, rfl, hR⟩ hi hw K hK
                      go_simp
                      refine hK.out _ _ ?_
                      exact ⟨(fun jz => if jz = 38 then .int .i64 (left : Int) else v jz), rfl, ⟨hR.st, hR.w3.o, hR.w4.o, hR.w5.o, hR.w6.o, hR.w7.o, hR.w8.o, hR.w9.o, hR.w10.o, hR.w11.o, hR.w12.o, hR.w13.o, hR.w14.o, hR.w15.o, hR.w16.o, hR.w17.o, hR.w18.o, hR.w19.o, hR.w20.o, hR.w21.o, hR.w22.o, hR.w23.o, hR.w24.o, hR.w25.o, hR.w26.o, hR.f0.k, (fun _ => rfl), hR.f2.k, hR.f3.k, hR.f4.k, hR.f5.k, hR.f6.k, hR.f7.k, hR.f8.k, hR.f9.k, hR.f10.k, hR.f11.k, hR.f12.k, hR.f13.k, hR.f14.k, hR.f15.k, hR.f16.k, hR.f17.k, hR.f18.k, hR.f19.k, hR.f20.k, hR.f21.k, hR.f22.k, hR.f23.k, hR.f24.k, hR.f25.k, hR.f26.k⟩⟩
                    refine EachOf.cons [] rfl (by kernel_rfl) ?_ ?_
                    · rintro L A W ⟨v, rfl, hR⟩ hi hw K hK
                      go_simp
                      refine hK.out _ _ ?_
                      exact ⟨(fun jz => if jz = 39 then .int .i64 (left : Int) else v jz), rfl, ⟨hR.st, hR.w3.o, hR.w4.o, hR.w5.o, hR.w6.o, hR.w7.o, hR.w8.o, hR.w9.o, hR.w10.o, hR.w11.o, hR.w12.o, hR.w13.o, hR.w14.o, hR.w15.o, hR.w16.o, hR.w17.o, hR.w18.o, hR.w19.o, hR.w20.o, hR.w21.o, hR.w22.o, hR.w23.o, hR.w24.o, hR.w25.o, hR.w26.o, hR.f0.k, hR.f1.k, (fun _ => rfl), hR.f3.k, hR.f4.k, hR.f5.k, hR.f6.k, hR.f7.k, hR.f8.k, hR.f9.k, hR.f10.k, hR.f11.k, hR.f12.k, hR.f13.k, hR.f14.k, hR.f15.k, hR.f16.k, hR.f17.k, hR.f18.k, hR.f19.k, hR.f20.k, hR.f21.k, hR.f22.k, hR.f23.k, hR.f24.k, hR.f25.k, hR.f26.k⟩⟩
                    refine EachOf.cons [2] rfl (by kernel_rfl) ?_ ?_
                    · rintro L A W ⟨v, rfl, hR⟩ hi hw K hK
                      have e2 := hR.f2 (hw 2 (by simp))
                      simp only [e2]
                      clear e2
                      go_simp
                      refine hK.out _ _ ?_
                      exact ⟨(fun jz => if jz = 39 then .int .i64 (left : Int) else if jz = 40 then .int .i64 (-(left : Int)) else v jz), rfl, ⟨hR.st, (fun _ j hj => upd_on (hw j hj)), hR.w4.o, hR.w5.o, hR.w6.o, hR.w7.o, hR.w8.o, hR.w9.o, hR.w10.o, hR.w11.o, hR.w12.o, hR.w13.o, hR.w14.o, hR.w15.o, hR.w16.o, hR.w17.o, hR.w18.o, hR.w19.o, hR.w20.o, hR.w21.o, hR.w22.o, hR.w23.o, hR.w24.o, hR.w25.o, hR.w26.o, hR.f0.k, hR.f1.k, (fun _ => rfl), (fun _ => rfl), hR.f4.k, hR.f5.k, hR.f6.k, hR.f7.k, hR.f8.k, hR.f9.k, hR.f10.k, hR.f11.k, hR.f12.k, hR.f13.k, hR.f14.k, hR.f15.k, hR.f16.k, hR.f17.k, hR.f18.k, hR.f19.k, hR.f20.k, hR.f21.k, hR.f22.k, hR.f23.k, hR.f24.k, hR.f25.k, hR.f26.k⟩⟩
                    refine EachOf.cons [1, 3] rfl (by kernel_rfl) ?_ ?_
                    · rintro L A W ⟨v, rfl, hR⟩ hi hw K hK
                      have e1 := hR.f1 (hw 1 (by simp))
                      have e3 := hR.f3 (hw 3 (by simp))
                      simp only [e1, e3]
                      clear e1 e3
                      go_simp
                      refine hK.out _ _ ?_
                      exact ⟨(fun jz => if jz = 38 then .int .i64 (left : Int) else if jz = 40 then .int .i64 (-(left : Int)) else if jz = 41 then .int .i64 (lw : Int) else v jz), rfl, ⟨hR.st, hR.w3.o, (fun _ j hj => upd_on (hw j hj)), hR.w5.o, hR.w6.o, hR.w7.o, hR.w8.o, hR.w9.o, hR.w10.o, hR.w11.o, hR.w12.o, hR.w13.o, hR.w14.o, hR.w15.o, hR.w16.o, hR.w17.o, hR.w18.o, hR.w19.o, hR.w20.o, hR.w21.o, hR.w22.o, hR.w23.o, hR.w24.o, hR.w25.o, hR.w26.o, hR.f0.k, (fun _ => rfl), hR.f2.k, (fun _ => rfl), (fun _ => rfl), hR.f5.k, hR.f6.k, hR.f7.k, hR.f8.k, hR.f9.k, hR.f10.k, hR.f11.k, hR.f12.k, hR.f13.k, hR.f14.k, hR.f15.k, hR.f16.k, hR.f17.k, hR.f18.k, hR.f19.k, hR.f20.k, hR.f21.k, hR.f22.k, hR.f23.k, hR.f24.k, hR.f25.k, hR.f26.k⟩⟩
                    refine EachOf.cons [0, 4] rfl (by kernel_rfl) ?_ ?_
                    · rintro L A W ⟨v, rfl, hR⟩ hi hw K hK
                      have e0 := hR.f0 (hw 0 (by simp))
                      have e4 := hR.f4 (hw 4 (by simp))
                      simp only [e0, e4]
                      clear e0 e4
                      go_simp
                      refine hK.out _ _ ?_
                      exact ⟨(fun jz => if jz = 37 then .int .i64 (p : Int) else if jz = 41 then .int .i64 (lw : Int) else if jz = 42 then .int .i64 (u : Int) else v jz), rfl, ⟨hR.st, hR.w3.o, hR.w4.o, (fun _ j hj => upd_on (hw j hj)), hR.w6.o, hR.w7.o, hR.w8.o, hR.w9.o, hR.w10.o, hR.w11.o, hR.w12.o, hR.w13.o, hR.w14.o, hR.w15.o, hR.w16.o, hR.w17.o, hR.w18.o, hR.w19.o, hR.w20.o, hR.w21.o, hR.w22.o, hR.w23.o, hR.w24.o, hR.w25.o, hR.w26.o, (fun _ => rfl), hR.f1.k, hR.f2.k, hR.f3.k, (fun _ => rfl), (fun _ => rfl), hR.f6.k, hR.f7.k, hR.f8.k, hR.f9.k, hR.f10.k, hR.f11.k, hR.f12.k, hR.f13.k, hR.f14.k, hR.f15.k, hR.f16.k, hR.f17.k, hR.f18.k, hR.f19.k, hR.f20.k, hR.f21.k, hR.f22.k, hR.f23.k, hR.f24.k, hR.f25.k, hR.f26.k⟩⟩
                    refine EachOf.cons [5] rfl (by kernel_rfl) ?_ ?_
                    · rintro L A W ⟨v, rfl, hR⟩ hi hw K hK
                      have e5 := hR.f5 (hw 5 (by simp))
                      simp only [e5]
                      clear e5
                      go_simp
                      refine hK.out _ _ ?_
                      exact ⟨(fun jz => if jz = 42 then .int .i64 (u : Int) else if jz = 43 then .bool false else v jz), rfl, ⟨hR.st, hR.w3.o, hR.w4.o, hR.w5.o, (fun _ j hj => upd_on (hw j hj)), hR.w7.o, hR.w8.o, hR.w9.o, hR.w10.o, hR.w11.o, hR.w12.o, hR.w13.o, hR.w14.o, hR.w15.o, hR.w16.o, hR.w17.o, hR.w18.o, hR.w19.o, hR.w20.o, hR.w21.o, hR.w22.o, hR.w23.o, hR.w24.o, hR.w25.o, hR.w26.o, hR.f0.k, hR.f1.k, hR.f2.k, hR.f3.k, hR.f4.k, (fun _ => rfl), (fun _ => rfl), hR.f7.k, hR.f8.k, hR.f9.k, hR.f10.k, hR.f11.k, hR.f12.k, hR.f13.k, hR.f14.k, hR.f15.k, hR.f16.k, hR.f17.k, hR.f18.k, hR.f19.k, hR.f20.k, hR.f21.k, hR.f22.k, hR.f23.k, hR.f24.k, hR.f25.k, hR.f26.k⟩⟩
                    refine EachOf.cons [6] rfl (by kernel_rfl) ?_ ?_
                    · rintro L A W ⟨v, rfl, hR⟩ hi hw K hK
                      have e6 := hR.f6 (hw 6 (by simp))
                      simp only [e6]
                      clear e6
                      go_simp
                      refine hK.out _ _ ?_
                      exact ⟨(fun jz => if jz = 43 then .bool false else if jz = 44 then .bool false else v jz), rfl, ⟨hR.st, hR.w3.o, hR.w4.o, hR.w5.o, hR.w6.o, (fun _ j hj => upd_on (hw j hj)), hR.w8.o, hR.w9.o, hR.w10.o, hR.w11.o, hR.w12.o, hR.w13.o, hR.w14.o, hR.w15.o, hR.w16.o, hR.w17.o, hR.w18.o, hR.w19.o, hR.w20.o, hR.w21.o, hR.w22.o, hR.w23.o, hR.w24.o, hR.w25.o, hR.w26.o, hR.f0.k, hR.f1.k, hR.f2.k, hR.f3.k, hR.f4.k, hR.f5.k, (fun _ => rfl), (fun _ => rfl), hR.f8.k, hR.f9.k, hR.f10.k, hR.f11.k, hR.f12.k, hR.f13.k, hR.f14.k, hR.f15.k, hR.f16.k, hR.f17.k, hR.f18.k, hR.f19.k, hR.f20.k, hR.f21.k, hR.f22.k, hR.f23.k, hR.f24.k, hR.f25.k, hR.f26.k⟩⟩
                    refine EachOf.cons [7] rfl (by kernel_rfl) ?_ ?_
                    · rintro L A W ⟨v, rfl, hR⟩ hi hw K hK
                      have e7 := hR.f7 (hw 7 (by simp))
                      simp only [e7]
                      clear e7
                      go_simp
                      refine hK.out _ _ ?_
                      exact ⟨(fun jz => if jz = 44 then .bool false else if jz = 45 then .slice ra n c else v jz), rfl, ⟨hR.st, hR.w3.o, hR.w4.o, hR.w5.o, hR.w6.o, hR.w7.o, (fun _ j hj => upd_on (hw j hj)), hR.w9.o, hR.w10.o, hR.w11.o, hR.w12.o, hR.w13.o, hR.w14.o, hR.w15.o, hR.w16.o, hR.w17.o, hR.w18.o, hR.w19.o, hR.w20.o, hR.w21.o, hR.w22.o, hR.w23.o, hR.w24.o, hR.w25.o, hR.w26.o, hR.f0.k, hR.f1.k, hR.f2.k, hR.f3.k, hR.f4.k, hR.f5.k, hR.f6.k, (fun _ => rfl), (fun _ => rfl), hR.f9.k, hR.f10.k, hR.f11.k, hR.f12.k, hR.f13.k, hR.f14.k, hR.f15.k, hR.f16.k, hR.f17.k, hR.f18.k, hR.f19.k, hR.f20.k, hR.f21.k, hR.f22.k, hR.f23.k, hR.f24.k, hR.f25.k, hR.f26.k⟩⟩
                    refine EachOf.cons [7] rfl (by kernel_rfl) ?_ ?_
                    · rintro L A W ⟨v, rfl, hR⟩ hi hw K hK
                      have e7 := hR.f7 (hw 7 (by simp))
                      simp only [e7]
                      clear e7
                      go_simp
                      refine hK.out _ _ ?_
                      exact ⟨(fun jz => if jz = 44 then .bool false else if jz = 46 then .int .i64 (p : Int) else v jz), rfl, ⟨hR.st, hR.w3.o, hR.w4.o, hR.w5.o, hR.w6.o, hR.w7.o, hR.w8.o, (fun _ j hj => upd_on (hw j hj)), hR.w10.o, hR.w11.o, hR.w12.o, hR.w13.o, hR.w14.o, hR.w15.o, hR.w16.o, hR.w17.o, hR.w18.o, hR.w19.o, hR.w20.o, hR.w21.o, hR.w22.o, hR.w23.o, hR.w24.o, hR.w25.o, hR.w26.o, hR.f0.k, hR.f1.k, hR.f2.k, hR.f3.k, hR.f4.k, hR.f5.k, hR.f6.k, (fun _ => rfl), hR.f8.k, (fun _ => rfl), hR.f10.k, hR.f11.k, hR.f12.k, hR.f13.k, hR.f14.k, hR.f15.k, hR.f16.k, hR.f17.k, hR.f18.k, hR.f19.k, hR.f20.k, hR.f21.k, hR.f22.k, hR.f23.k, hR.f24.k, hR.f25.k, hR.f26.k⟩⟩
                    refine EachOf.cons [7, 8, 9] rfl (by kernel_rfl) ?_ ?_
                    · rintro L A W ⟨v, rfl, hR⟩ hi hw K hK
                      have e8 := hR.f8 (hw 8 (by simp))
                      have e9 := hR.f9 (hw 9 (by simp))
                      have e7 := hR.f7 (hw 7 (by simp))
                      simp only [e8, e9, e7]
                      clear e8 e9 e7
                      go_simp
                      go_at_call 29
                      (with_reducible refine ((CSp _ (below_on HB2.out hR.st)).out).mono ?_)
                      rintro e w2 ⟨rfl, rfl⟩
                      go_simp
                      refine hK.out _ _ ?_
                      exact ⟨(fun jz => if jz = 45 then .slice ra n c else if jz = 46 then .int .i64 (p : Int) else if jz = 44 then .bool false else if jz = 47 then .int .i64 0 else v jz), rfl, ⟨hR.st, hR.w3.o, hR.w4.o, hR.w5.o, hR.w6.o, hR.w7.o, hR.w8.o, hR.w9.o, (fun _ j hj => upd_on (hw j hj)), hR.w11.o, hR.w12.o, hR.w13.o, hR.w14.o, hR.w15.o, hR.w16.o, hR.w17.o, hR.w18.o, hR.w19.o, hR.w20.o, hR.w21.o, hR.w22.o, hR.w23.o, hR.w24.o, hR.w25.o, hR.w26.o, hR.f0.k, hR.f1.k, hR.f2.k, hR.f3.k, hR.f4.k, hR.f5.k, hR.f6.k, (fun _ => rfl), (fun _ => rfl), (fun _ => rfl), (fun _ => rfl), hR.f11.k, hR.f12.k, hR.f13.k, hR.f14.k, hR.f15.k, hR.f16.k, hR.f17.k, hR.f18.k, hR.f19.k, hR.f20.k, hR.f21.k, hR.f22.k, hR.f23.k, hR.f24.k, hR.f25.k, hR.f26.k⟩⟩
                    refine EachOf.cons [7, 10] rfl (by kernel_rfl) ?_ ?_
                    · rintro L A W ⟨v, rfl, hR⟩ hi hw K hK
                      have e10 := hR.f10 (hw 10 (by simp))
                      have e7 := hR.f7 (hw 7 (by simp))
                      simp only [e10, e7]
                      clear e10 e7
                      go_simp
                      refine hK.out _ _ ?_
                      exact ⟨(fun jz => if jz = 47 then .int .i64 0 else if jz = 44 then .bool false else if jz = 48 then .bool false else v jz), rfl, ⟨hR.st, hR.w3.o, hR.w4.o, hR.w5.o, hR.w6.o, hR.w7.o, hR.w8.o, hR.w9.o, hR.w10.o, (fun _ j hj => upd_on (hw j hj)), hR.w12.o, hR.w13.o, hR.w14.o, hR.w15.o, hR.w16.o, hR.w17.o, hR.w18.o, hR.w19.o, hR.w20.o, hR.w21.o, hR.w22.o, hR.w23.o, hR.w24.o, hR.w25.o, hR.w26.o, hR.f0.k, hR.f1.k, hR.f2.k, hR.f3.k, hR.f4.k, hR.f5.k, hR.f6.k, (fun _ => rfl), hR.f8.k, hR.f9.k, (fun _ => rfl), (fun _ => rfl), hR.f12.k, hR.f13.k, hR.f14.k, hR.f15.k, hR.f16.k, hR.f17.k, hR.f18.k, hR.f19.k, hR.f20.k, hR.f21.k, hR.f22.k, hR.f23.k, hR.f24.k, hR.f25.k, hR.f26.k⟩⟩
                    refine EachOf.cons [7, 11] rfl (by kernel_rfl) ?_ ?_
                    · rintro L A W ⟨v, rfl, hR⟩ hi hw K hK
                      have e7 := hR.f7 (hw 7 (by simp))
                      have e11 := hR.f11 (hw 11 (by simp))
                      simp only [e7, e11]
                      clear e7 e11
                      go_simp
                      refine hK.out _ _ ?_
                      exact ⟨(fun jz => if jz = 44 then .bool false else if jz = 48 then .bool false else if jz = 49 then .bool false else v jz), rfl, ⟨hR.st, hR.w3.o, hR.w4.o, hR.w5.o, hR.w6.o, hR.w7.o, hR.w8.o, hR.w9.o, hR.w10.o, hR.w11.o, (fun _ j hj => upd_on (hw j hj)), hR.w13.o, hR.w14.o, hR.w15.o, hR.w16.o, hR.w17.o, hR.w18.o, hR.w19.o, hR.w20.o, hR.w21.o, hR.w22.o, hR.w23.o, hR.w24.o, hR.w25.o, hR.w26.o, hR.f0.k, hR.f1.k, hR.f2.k, hR.f3.k, hR.f4.k, hR.f5.k, hR.f6.k, (fun _ => rfl), hR.f8.k, hR.f9.k, hR.f10.k, (fun _ => rfl), (fun _ => rfl), hR.f13.k, hR.f14.k, hR.f15.k, hR.f16.k, hR.f17.k, hR.f18.k, hR.f19.k, hR.f20.k, hR.f21.k, hR.f22.k, hR.f23.k, hR.f24.k, hR.f25.k, hR.f26.k⟩⟩
                    refine EachOf.cons [12] rfl (by kernel_rfl) ?_ ?_
                    · rintro L A W ⟨v, rfl, hR⟩ hi hw K hK
                      have e12 := hR.f12 (hw 12 (by simp))
                      simp only [e12]
                      clear e12
                      go_simp
                      refine hK.out _ _ ?_
                      exact ⟨(fun jz => if jz = 49 then .bool false else if jz = 50 then .bool false else v jz), rfl, ⟨hR.st, hR.w3.o, hR.w4.o, hR.w5.o, hR.w6.o, hR.w7.o, hR.w8.o, hR.w9.o, hR.w10.o, hR.w11.o, hR.w12.o, (fun _ j hj => upd_on (hw j hj)), hR.w14.o, hR.w15.o, hR.w16.o, hR.w17.o, hR.w18.o, hR.w19.o, hR.w20.o, hR.w21.o, hR.w22.o, hR.w23.o, hR.w24.o, hR.w25.o, hR.w26.o, hR.f0.k, hR.f1.k, hR.f2.k, hR.f3.k, hR.f4.k, hR.f5.k, hR.f6.k, hR.f7.k, hR.f8.k, hR.f9.k, hR.f10.k, hR.f11.k, (fun _ => rfl), (fun _ => rfl), hR.f14.k, hR.f15.k, hR.f16.k, hR.f17.k, hR.f18.k, hR.f19.k, hR.f20.k, hR.f21.k, hR.f22.k, hR.f23.k, hR.f24.k, hR.f25.k, hR.f26.k⟩⟩
                    refine EachOf.cons [13] rfl (by kernel_rfl) ?_ ?_
                    · rintro L A W ⟨v, rfl, hR⟩ hi hw K hK
                      have e13 := hR.f13 (hw 13 (by simp))
                      simp only [e13]
                      clear e13
                      go_simp
                      refine hK.out _ _ ?_
                      exact ⟨(fun jz => if jz = 50 then .bool false else if jz = 51 then .slice (some ⟨g, 0, none⟩) (M) (cp) else v jz), rfl, ⟨hR.st, hR.w3.o, hR.w4.o, hR.w5.o, hR.w6.o, hR.w7.o, hR.w8.o, hR.w9.o, hR.w10.o, hR.w11.o, hR.w12.o, hR.w13.o, (fun _ j hj => upd_on (hw j hj)), hR.w15.o, hR.w16.o, hR.w17.o, hR.w18.o, hR.w19.o, hR.w20.o, hR.w21.o, hR.w22.o, hR.w23.o, hR.w24.o, hR.w25.o, hR.w26.o, hR.f0.k, hR.f1.k, hR.f2.k, hR.f3.k, hR.f4.k, hR.f5.k, hR.f6.k, hR.f7.k, hR.f8.k, hR.f9.k, hR.f10.k, hR.f11.k, hR.f12.k, (fun _ => rfl), (fun _ => rfl), hR.f15.k, hR.f16.k, hR.f17.k, hR.f18.k, hR.f19.k, hR.f20.k, hR.f21.k, hR.f22.k, hR.f23.k, hR.f24.k, hR.f25.k, hR.f26.k⟩⟩
                    refine EachOf.cons [13] rfl (by kernel_rfl) ?_ ?_
                    · rintro L A W ⟨v, rfl, hR⟩ hi hw K hK
                      have e13 := hR.f13 (hw 13 (by simp))
                      simp only [e13]
                      clear e13
                      go_simp
                      refine hK.out _ _ ?_
                      exact ⟨(fun jz => if jz = 50 then .bool false else if jz = 52 then .int .i64 (left : Int) else v jz), rfl, ⟨hR.st, hR.w3.o, hR.w4.o, hR.w5.o, hR.w6.o, hR.w7.o, hR.w8.o, hR.w9.o, hR.w10.o, hR.w11.o, hR.w12.o, hR.w13.o, hR.w14.o, (fun _ j hj => upd_on (hw j hj)), hR.w16.o, hR.w17.o, hR.w18.o, hR.w19.o, hR.w20.o, hR.w21.o, hR.w22.o, hR.w23.o, hR.w24.o, hR.w25.o, hR.w26.o, hR.f0.k, hR.f1.k, hR.f2.k, hR.f3.k, hR.f4.k, hR.f5.k, hR.f6.k, hR.f7.k, hR.f8.k, hR.f9.k, hR.f10.k, hR.f11.k, hR.f12.k, (fun _ => rfl), hR.f14.k, (fun _ => rfl), hR.f16.k, hR.f17.k, hR.f18.k, hR.f19.k, hR.f20.k, hR.f21.k, hR.f22.k, hR.f23.k, hR.f24.k, hR.f25.k, hR.f26.k⟩⟩
                    refine EachOf.cons [13] rfl (by kernel_rfl) ?_ ?_
                    · rintro L A W ⟨v, rfl, hR⟩ hi hw K hK
                      have e13 := hR.f13 (hw 13 (by simp))
                      simp only [e13]
                      clear e13
                      go_simp
                      refine hK.out _ _ ?_
                      exact ⟨(fun jz => if jz = 50 then .bool false else if jz = 53 then .int .i64 (p : Int) else v jz), rfl, ⟨hR.st, hR.w3.o, hR.w4.o, hR.w5.o, hR.w6.o, hR.w7.o, hR.w8.o, hR.w9.o, hR.w10.o, hR.w11.o, hR.w12.o, hR.w13.o, hR.w14.o, hR.w15.o, (fun _ j hj => upd_on (hw j hj)), hR.w17.o, hR.w18.o, hR.w19.o, hR.w20.o, hR.w21.o, hR.w22.o, hR.w23.o, hR.w24.o, hR.w25.o, hR.w26.o, hR.f0.k, hR.f1.k, hR.f2.k, hR.f3.k, hR.f4.k, hR.f5.k, hR.f6.k, hR.f7.k, hR.f8.k, hR.f9.k, hR.f10.k, hR.f11.k, hR.f12.k, (fun _ => rfl), hR.f14.k, hR.f15.k, (fun _ => rfl), hR.f17.k, hR.f18.k, hR.f19.k, hR.f20.k, hR.f21.k, hR.f22.k, hR.f23.k, hR.f24.k, hR.f25.k, hR.f26.k⟩⟩
                    refine EachOf.cons [13, 15, 16] rfl (by kernel_rfl) ?_ ?_
                    · rintro L A W ⟨v, rfl, hR⟩ hi hw K hK
                      have e15 := hR.f15 (hw 15 (by simp))
                      have e16 := hR.f16 (hw 16 (by simp))
                      have e13 := hR.f13 (hw 13 (by simp))
                      simp only [e15, e16, e13]
                      clear e15 e16 e13
                      go_simp
                      refine hK.out _ _ ?_
                      exact ⟨(fun jz => if jz = 52 then .int .i64 (left : Int) else if jz = 53 then .int .i64 (p : Int) else if jz = 50 then .bool false else if jz = 54 then .int .i64 (d : Int) else v jz), rfl, ⟨hR.st, hR.w3.o, hR.w4.o, hR.w5.o, hR.w6.o, hR.w7.o, hR.w8.o, hR.w9.o, hR.w10.o, hR.w11.o, hR.w12.o, hR.w13.o, hR.w14.o, hR.w15.o, hR.w16.o, (fun _ j hj => upd_on (hw j hj)), hR.w18.o, hR.w19.o, hR.w20.o, hR.w21.o, hR.w22.o, hR.w23.o, hR.w24.o, hR.w25.o, hR.w26.o, hR.f0.k, hR.f1.k, hR.f2.k, hR.f3.k, hR.f4.k, hR.f5.k, hR.f6.k, hR.f7.k, hR.f8.k, hR.f9.k, hR.f10.k, hR.f11.k, hR.f12.k, (fun _ => rfl), hR.f14.k, (fun _ => rfl), (fun _ => rfl), (fun _ => rfl), hR.f18.k, hR.f19.k, hR.f20.k, hR.f21.k, hR.f22.k, hR.f23.k, hR.f24.k, hR.f25.k, hR.f26.k⟩⟩
                    refine EachOf.cons [13, 14, 17] rfl (by kernel_rfl) ?_ ?_
                    · rintro L A W ⟨v, rfl, hR⟩ hi hw K hK
                      have e14 := hR.f14 (hw 14 (by simp))
                      have e17 := hR.f17 (hw 17 (by simp))
                      have e13 := hR.f13 (hw 13 (by simp))
                      simp only [e14, e17, e13]
                      clear e14 e17 e13
                      go_simp
                      refine hK.out _ _ ?_
                      exact ⟨(fun jz => if jz = 51 then .slice (some ⟨g, 0, none⟩) (M) (cp) else if jz = 54 then .int .i64 (d : Int) else if jz = 50 then .bool false else if jz = 55 then .pointer (some ⟨g, d, none⟩) else v jz), rfl, ⟨hR.st, hR.w3.o, hR.w4.o, hR.w5.o, hR.w6.o, hR.w7.o, hR.w8.o, hR.w9.o, hR.w10.o, hR.w11.o, hR.w12.o, hR.w13.o, hR.w14.o, hR.w15.o, hR.w16.o, hR.w17.o, (fun _ j hj => upd_on (hw j hj)), hR.w19.o, hR.w20.o, hR.w21.o, hR.w22.o, hR.w23.o, hR.w24.o, hR.w25.o, hR.w26.o, hR.f0.k, hR.f1.k, hR.f2.k, hR.f3.k, hR.f4.k, hR.f5.k, hR.f6.k, hR.f7.k, hR.f8.k, hR.f9.k, hR.f10.k, hR.f11.k, hR.f12.k, (fun _ => rfl), (fun _ => rfl), hR.f15.k, hR.f16.k, (fun _ => rfl), (fun _ => rfl), hR.f19.k, hR.f20.k, hR.f21.k, hR.f22.k, hR.f23.k, hR.f24.k, hR.f25.k, hR.f26.k⟩⟩
                    refine EachOf.cons [13, 18] rfl (by kernel_rfl) ?_ ?_
                    · rintro L A W ⟨v, rfl, hR⟩ hi hw K hK
                      have e18 := hR.f18 (hw 18 (by simp))
                      have e13 := hR.f13 (hw 13 (by simp))
                      simp only [e18, e13]
                      clear e18 e13
                      have q0 := (hR.st.cell (p := ⟨g, d, none⟩) LD.out.2).trans LD.out.1
                      go_simp
                      refine hK.out _ _ ?_
                      exact ⟨(fun jz => if jz = 55 then .pointer (some ⟨g, d, none⟩) else if jz = 50 then .bool false else if jz = 56 then .int .i64 z else v jz), rfl, ⟨hR.st, hR.w3.o, hR.w4.o, hR.w5.o, hR.w6.o, hR.w7.o, hR.w8.o, hR.w9.o, hR.w10.o, hR.w11.o, hR.w12.o, hR.w13.o, hR.w14.o, hR.w15.o, hR.w16.o, hR.w17.o, hR.w18.o, (fun _ j hj => upd_on (hw j hj)), hR.w20.o, hR.w21.o, hR.w22.o, hR.w23.o, hR.w24.o, hR.w25.o, hR.w26.o, hR.f0.k, hR.f1.k, hR.f2.k, hR.f3.k, hR.f4.k, hR.f5.k, hR.f6.k, hR.f7.k, hR.f8.k, hR.f9.k, hR.f10.k, hR.f11.k, hR.f12.k, (fun _ => rfl), hR.f14.k, hR.f15.k, hR.f16.k, hR.f17.k, (fun _ => rfl), (fun _ => rfl), hR.f20.k, hR.f21.k, hR.f22.k, hR.f23.k, hR.f24.k, hR.f25.k, hR.f26.k⟩⟩
                    refine EachOf.cons [13] rfl (by kernel_rfl) ?_ ?_
                    · rintro L A W ⟨v, rfl, hR⟩ hi hw K hK
                      have e13 := hR.f13 (hw 13 (by simp))
                      simp only [e13]
                      clear e13
                      go_simp
                      refine hK.out _ _ ?_
                      exact ⟨(fun jz => if jz = 50 then .bool false else if jz = 57 then .slice (some ⟨g, 0, none⟩) (M) (cp) else v jz), rfl, ⟨hR.st, hR.w3.o, hR.w4.o, hR.w5.o, hR.w6.o, hR.w7.o, hR.w8.o, hR.w9.o, hR.w10.o, hR.w11.o, hR.w12.o, hR.w13.o, hR.w14.o, hR.w15.o, hR.w16.o, hR.w17.o, hR.w18.o, hR.w19.o, (fun _ j hj => upd_on (hw j hj)), hR.w21.o, hR.w22.o, hR.w23.o, hR.w24.o, hR.w25.o, hR.w26.o, hR.f0.k, hR.f1.k, hR.f2.k, hR.f3.k, hR.f4.k, hR.f5.k, hR.f6.k, hR.f7.k, hR.f8.k, hR.f9.k, hR.f10.k, hR.f11.k, hR.f12.k, (fun _ => rfl), hR.f14.k, hR.f15.k, hR.f16.k, hR.f17.k, hR.f18.k, hR.f19.k, (fun _ => rfl), hR.f21.k, hR.f22.k, hR.f23.k, hR.f24.k, hR.f25.k, hR.f26.k⟩⟩
                    refine EachOf.cons [13] rfl (by kernel_rfl) ?_ ?_
                    · rintro L A W ⟨v, rfl, hR⟩ hi hw K hK
                      have e13 := hR.f13 (hw 13 (by simp))
                      simp only [e13]
                      clear e13
                      go_simp
                      refine hK.out _ _ ?_
                      exact ⟨(fun jz => if jz = 50 then .bool false else if jz = 58 then .int .i64 (left : Int) else v jz), rfl, ⟨hR.st, hR.w3.o, hR.w4.o, hR.w5.o, hR.w6.o, hR.w7.o, hR.w8.o, hR.w9.o, hR.w10.o, hR.w11.o, hR.w12.o, hR.w13.o, hR.w14.o, hR.w15.o, hR.w16.o, hR.w17.o, hR.w18.o, hR.w19.o, hR.w20.o, (fun _ j hj => upd_on (hw j hj)), hR.w22.o, hR.w23.o, hR.w24.o, hR.w25.o, hR.w26.o, hR.f0.k, hR.f1.k, hR.f2.k, hR.f3.k, hR.f4.k, hR.f5.k, hR.f6.k, hR.f7.k, hR.f8.k, hR.f9.k, hR.f10.k, hR.f11.k, hR.f12.k, (fun _ => rfl), hR.f14.k, hR.f15.k, hR.f16.k, hR.f17.k, hR.f18.k, hR.f19.k, hR.f20.k, (fun _ => rfl), hR.f22.k, hR.f23.k, hR.f24.k, hR.f25.k, hR.f26.k⟩⟩
                    refine EachOf.cons [13, 20, 21] rfl (by kernel_rfl) ?_ ?_
                    · rintro L A W ⟨v, rfl, hR⟩ hi hw K hK
                      have e20 := hR.f20 (hw 20 (by simp))
                      have e21 := hR.f21 (hw 21 (by simp))
                      have e13 := hR.f13 (hw 13 (by simp))
                      simp only [e20, e21, e13]
                      clear e20 e21 e13
                      go_simp
                      refine hK.out _ _ ?_
                      exact ⟨(fun jz => if jz = 57 then .slice (some ⟨g, 0, none⟩) (M) (cp) else if jz = 58 then .int .i64 (left : Int) else if jz = 50 then .bool false else if jz = 59 then .pointer (some ⟨g, left, none⟩) else v jz), rfl, ⟨hR.st, hR.w3.o, hR.w4.o, hR.w5.o, hR.w6.o, hR.w7.o, hR.w8.o, hR.w9.o, hR.w10.o, hR.w11.o, hR.w12.o, hR.w13.o, hR.w14.o, hR.w15.o, hR.w16.o, hR.w17.o, hR.w18.o, hR.w19.o, hR.w20.o, hR.w21.o, (fun _ j hj => upd_on (hw j hj)), hR.w23.o, hR.w24.o, hR.w25.o, hR.w26.o, hR.f0.k, hR.f1.k, hR.f2.k, hR.f3.k, hR.f4.k, hR.f5.k, hR.f6.k, hR.f7.k, hR.f8.k, hR.f9.k, hR.f10.k, hR.f11.k, hR.f12.k, (fun _ => rfl), hR.f14.k, hR.f15.k, hR.f16.k, hR.f17.k, hR.f18.k, hR.f19.k, (fun _ => rfl), (fun _ => rfl), (fun _ => rfl), hR.f23.k, hR.f24.k, hR.f25.k, hR.f26.k⟩⟩
                    refine EachOf.cons [13, 22] rfl (by kernel_rfl) ?_ ?_
                    · rintro L A W ⟨v, rfl, hR⟩ hi hw K hK
                      have e22 := hR.f22 (hw 22 (by simp))
                      have e13 := hR.f13 (hw 13 (by simp))
                      simp only [e22, e13]
                      clear e22 e13
                      have q0 := (hR.st.cell (p := ⟨g, left, none⟩) LL.out.2).trans LL.out.1
                      go_simp
                      refine hK.out _ _ ?_
                      exact ⟨(fun jz => if jz = 59 then .pointer (some ⟨g, left, none⟩) else if jz = 50 then .bool false else if jz = 60 then .int .i64 y else v jz), rfl, ⟨hR.st, hR.w3.o, hR.w4.o, hR.w5.o, hR.w6.o, hR.w7.o, hR.w8.o, hR.w9.o, hR.w10.o, hR.w11.o, hR.w12.o, hR.w13.o, hR.w14.o, hR.w15.o, hR.w16.o, hR.w17.o, hR.w18.o, hR.w19.o, hR.w20.o, hR.w21.o, hR.w22.o, (fun _ j hj => upd_on (hw j hj)), hR.w24.o, hR.w25.o, hR.w26.o, hR.f0.k, hR.f1.k, hR.f2.k, hR.f3.k, hR.f4.k, hR.f5.k, hR.f6.k, hR.f7.k, hR.f8.k, hR.f9.k, hR.f10.k, hR.f11.k, hR.f12.k, (fun _ => rfl), hR.f14.k, hR.f15.k, hR.f16.k, hR.f17.k, hR.f18.k, hR.f19.k, hR.f20.k, hR.f21.k, (fun _ => rfl), (fun _ => rfl), hR.f24.k, hR.f25.k, hR.f26.k⟩⟩
                    refine EachOf.cons [13, 23] rfl (by kernel_rfl) ?_ ?_
                    · rintro L A W ⟨v, rfl, hR⟩ hi hw K hK
                      have e23 := hR.f23 (hw 23 (by simp))
                      have e13 := hR.f13 (hw 13 (by simp))
                      simp only [e23, e13]
                      clear e23 e13
                      go_simp
                      refine hK.out _ _ ?_
                      exact ⟨(fun jz => if jz = 60 then .int .i64 y else if jz = 50 then .bool false else if jz = 61 then .int .i64 y1 else v jz), rfl, ⟨hR.st, hR.w3.o, hR.w4.o, hR.w5.o, hR.w6.o, hR.w7.o, hR.w8.o, hR.w9.o, hR.w10.o, hR.w11.o, hR.w12.o, hR.w13.o, hR.w14.o, hR.w15.o, hR.w16.o, hR.w17.o, hR.w18.o, hR.w19.o, hR.w20.o, hR.w21.o, hR.w22.o, hR.w23.o, (fun _ j hj => upd_on (hw j hj)), hR.w25.o, hR.w26.o, hR.f0.k, hR.f1.k, hR.f2.k, hR.f3.k, hR.f4.k, hR.f5.k, hR.f6.k, hR.f7.k, hR.f8.k, hR.f9.k, hR.f10.k, hR.f11.k, hR.f12.k, (fun _ => rfl), hR.f14.k, hR.f15.k, hR.f16.k, hR.f17.k, hR.f18.k, hR.f19.k, hR.f20.k, hR.f21.k, hR.f22.k, (fun _ => rfl), (fun _ => rfl), hR.f25.k, hR.f26.k⟩⟩
                    refine EachOf.cons [13, 19, 24] rfl (by kernel_rfl) ?_ ?_
                    · rintro L A W ⟨v, rfl, hR⟩ hi hw K hK
                      have e19 := hR.f19 (hw 19 (by simp))
                      have e24 := hR.f24 (hw 24 (by simp))
                      have e13 := hR.f13 (hw 13 (by simp))
                      simp only [e19, e24, e13]
                      clear e19 e24 e13
                      go_simp
                      refine hK.out _ _ ?_
                      exact ⟨(fun jz => if jz = 56 then .int .i64 z else if jz = 61 then .int .i64 y1 else if jz = 50 then .bool false else if jz = 62 then .bool false else v jz), rfl, ⟨hR.st, hR.w3.o, hR.w4.o, hR.w5.o, hR.w6.o, hR.w7.o, hR.w8.o, hR.w9.o, hR.w10.o, hR.w11.o, hR.w12.o, hR.w13.o, hR.w14.o, hR.w15.o, hR.w16.o, hR.w17.o, hR.w18.o, hR.w19.o, hR.w20.o, hR.w21.o, hR.w22.o, hR.w23.o, hR.w24.o, (fun _ j hj => upd_on (hw j hj)), hR.w26.o, hR.f0.k, hR.f1.k, hR.f2.k, hR.f3.k, hR.f4.k, hR.f5.k, hR.f6.k, hR.f7.k, hR.f8.k, hR.f9.k, hR.f10.k, hR.f11.k, hR.f12.k, (fun _ => rfl), hR.f14.k, hR.f15.k, hR.f16.k, hR.f17.k, hR.f18.k, (fun _ => rfl), hR.f20.k, hR.f21.k, hR.f22.k, hR.f23.k, (fun _ => rfl), (fun _ => rfl), hR.f26.k⟩⟩
                    refine EachOf.cons [13, 25] rfl (by kernel_rfl) ?_ ?_
                    · rintro L A W ⟨v, rfl, hR⟩ hi hw K hK
                      have e13 := hR.f13 (hw 13 (by simp))
                      have e25 := hR.f25 (hw 25 (by simp))
                      simp only [e13, e25]
                      clear e13 e25
                      go_simp
                      refine hK.out _ _ ?_
                      exact ⟨(fun jz => if jz = 50 then .bool false else if jz = 62 then .bool false else if jz = 63 then .bool false else v jz), rfl, ⟨hR.st, hR.w3.o, hR.w4.o, hR.w5.o, hR.w6.o, hR.w7.o, hR.w8.o, hR.w9.o, hR.w10.o, hR.w11.o, hR.w12.o, hR.w13.o, hR.w14.o, hR.w15.o, hR.w16.o, hR.w17.o, hR.w18.o, hR.w19.o, hR.w20.o, hR.w21.o, hR.w22.o, hR.w23.o, hR.w24.o, hR.w25.o, (fun _ j hj => upd_on (hw j hj)), hR.f0.k, hR.f1.k, hR.f2.k, hR.f3.k, hR.f4.k, hR.f5.k, hR.f6.k, hR.f7.k, hR.f8.k, hR.f9.k, hR.f10.k, hR.f11.k, hR.f12.k, (fun _ => rfl), hR.f14.k, hR.f15.k, hR.f16.k, hR.f17.k, hR.f18.k, hR.f19.k, hR.f20.k, hR.f21.k, hR.f22.k, hR.f23.k, hR.f24.k, (fun _ => rfl), (fun _ => rfl)⟩⟩
                    exact EachOf.nil
                  · rintro L A W ⟨vv, rfl, hR⟩ hall
                    have hst := Lib.hid hR.st
                    have e26 := hR.f26 (hall 26 (by simp))
                    simp only [e26]
                    clear hR e26 hall
                    go_wp2_with fail
                    go_roundg (2 * v)
                    case measure => omega
                    case rel => exact ⟨v, p, rfl, rfl, rfl, by omega, hp, below_on HU.out hst.out, T2.out, hsub⟩
                · have q4 : ((b : Int) == 0) = false := by simp; exact hb0
                  have HTK2 := Lib.hid (fun he => HTK.out hc (.inr he))
                  have HSY2 := Lib.hid (fun he => HSY.out hb0 he)
                  clear HSK HTK HSY hA HQQ hTp hc
                  generalize p &&& lw = u at *
                  generalize hv : (p - 1) &&& left = v at *
                  obtain ⟨lq, hlq⟩ : ∃ x, LR n p = x := ⟨_, rfl⟩
                  obtain ⟨lt, hlt⟩ : ∃ x, LR n b = x := ⟨_, rfl⟩
                  rw [hlq] at CIp HTK2 HSY2 hp16
                  rw [hlt] at CIb HTK2 HSY2 hb16
                  have CE := fun xa xc ya yc W h1 h2 => Lib.hid (Earlier_any xa xc lq ya yc lt W h1 h2 (by omega) (by omega))
                  clear hlq hlt
                  go_upto_region 15 with fail
                  refine wp_region_each (fun L A W => ∃ (v : Nat → Value), A = ⟨#[_, _, _, _, _, _, _, _, _, _, _, _, _, _, _, _, _, _, _, _, _, _, _, _, _, _, _, _, _, _, _, _, _, _, _, _, _, v 37, v 38, v 39, v 40, v 41, v 42, v 43, v 44, v 45, v 46, v 47, v 48, v 49, v 50, v 51, v 52, v 53, v 54, v 55, v 56, v 57, v 58, v 59, v 60, v 61, v 62, v 63, _, _, _, _, _, _, _, _, _, _, _, _, _, _, _, _, _, _, _, _, _, _], []⟩ ∧ RpcR g M cp left p lw u d 0 z y y1 false (.slice ra n c) W2 L v W) (by kernel_rfl) (by kernel_rfl) ⟨fun jz => if jz = 37 then u37 else if jz = 38 then u38 else if jz = 39 then u39 else if jz = 40 then u40 else if jz = 41 then u41 else if jz = 42 then u42 else if jz = 43 then u43 else if jz = 44 then u44 else if jz = 45 then u45 else if jz = 46 then u46 else if jz = 47 then u47 else if jz = 48 then u48 else if jz = 49 then u49 else if jz = 50 then u50 else if jz = 51 then u51 else if jz = 52 then u52 else if jz = 53 then u53 else if jz = 54 then u54 else if jz = 55 then u55 else if jz = 56 then u56 else if jz = 57 then u57 else if jz = 58 then u58 else if jz = 59 then u59 else if jz = 60 then u60 else if jz = 61 then u61 else if jz = 62 then u62 else if jz = 63 then u63 else undef, rfl, ⟨Below.drew (Below.refl _ _), Had.none, Had.none, Had.none, Had.none, Had.none, Had.none, Had.none, Had.none, Had.none, Had.none, Had.none, Had.none, Had.none, Had.none, Had.none, Had.none, Had.none, Had.none, Had.none, Had.none, Had.none, Had.none, Had.none, Had.none, Had.none, Had.none, Had.none, Had.none, Had.none, Had.none, Had.none, Had.none, Had.none, Had.none, Had.none, Had.none, Had.none, Had.none, Had.none, Had.none, Had.none, Had.none, Had.none, Had.none, Had.none, Had.none, Had.none, Had.none, Had.none, Had.none, Had.none⟩⟩ (rs := [0, 1, 2, 3, 4, 5, 6, 7, 8, 9, 10, 11, 12, 13, 14, 15, 16, 17, 18, 19, 20, 21, 22, 23, 24, 25, 26]) (by kernel_rfl) ?_ ?_
                  · refine EachOf.cons [] rfl (by kernel_rfl) ?_ ?_
                    · rintro L A W ⟨v, rfl, hR⟩ hi hw K hK
                      go_simp
                      refine hK.out _ _ ?_
                      exact ⟨(fun jz => if jz = 37 then .int .i64 (p : Int) else v jz), rfl, ⟨hR.st, hR.w3.o, hR.w4.o, hR.w5.o, hR.w6.o, hR.w7.o, hR.w8.o, hR.w9.o, hR.w10.o, hR.w11.o, hR.w12.o, hR.w13.o, hR.w14.o, hR.w15.o, hR.w16.o, hR.w17.o, hR.w18.o, hR.w19.o, hR.w20.o, hR.w21.o, hR.w22.o, hR.w23.o, hR.w24.o, hR.w25.o, hR.w26.o, (fun _ => rfl), hR.f1.k, hR.f2.k, hR.f3.k, hR.f4.k, hR.f5.k, hR.f6.k, hR.f7.k, hR.f8.k, hR.f9.k, hR.f10.k, hR.f11.k, hR.f12.k, hR.f13.k, hR.f14.k, hR.f15.k, hR.f16.k, hR.f17.k, hR.f18.k, hR.f19.k, hR.f20.k, hR.f21.k, hR.f22.k, hR.f23.k, hR.f24.k, hR.f25.k, hR.f26.k⟩⟩
                    refine EachOf.cons [] rfl (by kernel_rfl) ?_ ?_
                    · rintro L A W ⟨v, rfl, hR⟩ hi hw K hK
                      go_simp
                      refine hK.out _ _ ?_
                      exact ⟨(fun jz => if jz = 38 then .int .i64 (left : Int) else v jz), rfl, ⟨hR.st, hR.w3.o, hR.w4.o, hR.w5.o, hR.w6.o, hR.w7.o, hR.w8.o, hR.w9.o, hR.w10.o, hR.w11.o, hR.w12.o, hR.w13.o, hR.w14.o, hR.w15.o, hR.w16.o, hR.w17.o, hR.w18.o, hR.w19.o, hR.w20.o, hR.w21.o, hR.w22.o, hR.w23.o, hR.w24.o, hR.w25.o, hR.w26.o, hR.f0.k, (fun _ => rfl), hR.f2.k, hR.f3.k, hR.f4.k, hR.f5.k, hR.f6.k, hR.f7.k, hR.f8.k, hR.f9.k, hR.f10.k, hR.f11.k, hR.f12.k, hR.f13.k, hR.f14.k, hR.f15.k, hR.f16.k, hR.f17.k, hR.f18.k, hR.f19.k, hR.f20.k, hR.f21.k, hR.f22.k, hR.f23.k, hR.f24.k, hR.f25.k, hR.f26.k⟩⟩
                    refine EachOf.cons [] rfl (by kernel_rfl) ?_ ?_
                    · rintro L A W ⟨v, rfl, hR⟩ hi hw K hK
                      go_simp
                      refine hK.out _ _ ?_
                      exact ⟨(fun jz => if jz = 39 then .int .i64 (left : Int) else v jz), rfl, ⟨hR.st, hR.w3.o, hR.w4.o, hR.w5.o, hR.w6.o, hR.w7.o, hR.w8.o, hR.w9.o, hR.w10.o, hR.w11.o, hR.w12.o, hR.w13.o, hR.w14.o, hR.w15.o, hR.w16.o, hR.w17.o, hR.w18.o, hR.w19.o, hR.w20.o, hR.w21.o, hR.w22.o, hR.w23.o, hR.w24.o, hR.w25.o, hR.w26.o, hR.f0.k, hR.f1.k, (fun _ => rfl), hR.f3.k, hR.f4.k, hR.f5.k, hR.f6.k, hR.f7.k, hR.f8.k, hR.f9.k, hR.f10.k, hR.f11.k, hR.f12.k, hR.f13.k, hR.f14.k, hR.f15.k, hR.f16.k, hR.f17.k, hR.f18.k, hR.f19.k, hR.f20.k, hR.f21.k, hR.f22.k, hR.f23.k, hR.f24.k, hR.f25.k, hR.f26.k⟩⟩
                    refine EachOf.cons [2] rfl (by kernel_rfl) ?_ ?_
                    · rintro L A W ⟨v, rfl, hR⟩ hi hw K hK
                      have e2 := hR.f2 (hw 2 (by simp))
                      simp only [e2]
                      clear e2
                      go_simp
                      refine hK.out _ _ ?_
                      exact ⟨(fun jz => if jz = 39 then .int .i64 (left : Int) else if jz = 40 then .int .i64 (-(left : Int)) else v jz), rfl, ⟨hR.st, (fun _ j hj => upd_on (hw j hj)), hR.w4.o, hR.w5.o, hR.w6.o, hR.w7.o, hR.w8.o, hR.w9.o, hR.w10.o, hR.w11.o, hR.w12.o, hR.w13.o, hR.w14.o, hR.w15.o, hR.w16.o, hR.w17.o, hR.w18.o, hR.w19.o, hR.w20.o, hR.w21.o, hR.w22.o, hR.w23.o, hR.w24.o, hR.w25.o, hR.w26.o, hR.f0.k, hR.f1.k, (fun _ => rfl), (fun _ => rfl), hR.f4.k, hR.f5.k, hR.f6.k, hR.f7.k, hR.f8.k, hR.f9.k, hR.f10.k, hR.f11.k, hR.f12.k, hR.f13.k, hR.f14.k, hR.f15.k, hR.f16.k, hR.f17.k, hR.f18.k, hR.f19.k, hR.f20.k, hR.f21.k, hR.f22.k, hR.f23.k, hR.f24.k, hR.f25.k, hR.f26.k⟩⟩
                    refine EachOf.cons [1, 3] rfl (by kernel_rfl) ?_ ?_
                    · rintro L A W ⟨v, rfl, hR⟩ hi hw K hK
                      have e1 := hR.f1 (hw 1 (by simp))
                      have e3 := hR.f3 (hw 3 (by simp))
                      simp only [e1, e3]
                      clear e1 e3
                      go_simp
                      refine hK.out _ _ ?_
                      exact ⟨(fun jz => if jz = 38 then .int .i64 (left : Int) else if jz = 40 then .int .i64 (-(left : Int)) else if jz = 41 then .int .i64 (lw : Int) else v jz), rfl, ⟨hR.st, hR.w3.o, (fun _ j hj => upd_on (hw j hj)), hR.w5.o, hR.w6.o, hR.w7.o, hR.w8.o, hR.w9.o, hR.w10.o, hR.w11.o, hR.w12.o, hR.w13.o, hR.w14.o, hR.w15.o, hR.w16.o, hR.w17.o, hR.w18.o, hR.w19.o, hR.w20.o, hR.w21.o, hR.w22.o, hR.w23.o, hR.w24.o, hR.w25.o, hR.w26.o, hR.f0.k, (fun _ => rfl), hR.f2.k, (fun _ => rfl), (fun _ => rfl), hR.f5.k, hR.f6.k, hR.f7.k, hR.f8.k, hR.f9.k, hR.f10.k, hR.f11.k, hR.f12.k, hR.f13.k, hR.f14.k, hR.f15.k, hR.f16.k, hR.f17.k, hR.f18.k, hR.f19.k, hR.f20.k, hR.f21.k, hR.f22.k, hR.f23.k, hR.f24.k, hR.f25.k, hR.f26.k⟩⟩
                    refine EachOf.cons [0, 4] rfl (by kernel_rfl) ?_ ?_
                    · rintro L A W ⟨v, rfl, hR⟩ hi hw K hK
                      have e0 := hR.f0 (hw 0 (by simp))
                      have e4 := hR.f4 (hw 4 (by simp))
                      simp only [e0, e4]
                      clear e0 e4
                      go_simp
                      refine hK.out _ _ ?_
                      exact ⟨(fun jz => if jz = 37 then .int .i64 (p : Int) else if jz = 41 then .int .i64 (lw : Int) else if jz = 42 then .int .i64 (u : Int) else v jz), rfl, ⟨hR.st, hR.w3.o, hR.w4.o, (fun _ j hj => upd_on (hw j hj)), hR.w6.o, hR.w7.o, hR.w8.o, hR.w9.o, hR.w10.o, hR.w11.o, hR.w12.o, hR.w13.o, hR.w14.o, hR.w15.o, hR.w16.o, hR.w17.o, hR.w18.o, hR.w19.o, hR.w20.o, hR.w21.o, hR.w22.o, hR.w23.o, hR.w24.o, hR.w25.o, hR.w26.o, (fun _ => rfl), hR.f1.k, hR.f2.k, hR.f3.k, (fun _ => rfl), (fun _ => rfl), hR.f6.k, hR.f7.k, hR.f8.k, hR.f9.k, hR.f10.k, hR.f11.k, hR.f12.k, hR.f13.k, hR.f14.k, hR.f15.k, hR.f16.k, hR.f17.k, hR.f18.k, hR.f19.k, hR.f20.k, hR.f21.k, hR.f22.k, hR.f23.k, hR.f24.k, hR.f25.k, hR.f26.k⟩⟩
                    refine EachOf.cons [5] rfl (by kernel_rfl) ?_ ?_
                    · rintro L A W ⟨v, rfl, hR⟩ hi hw K hK
                      have e5 := hR.f5 (hw 5 (by simp))
                      simp only [e5]
                      clear e5
                      go_simp
                      refine hK.out _ _ ?_
                      exact ⟨(fun jz => if jz = 42 then .int .i64 (u : Int) else if jz = 43 then .bool false else v jz), rfl, ⟨hR.st, hR.w3.o, hR.w4.o, hR.w5.o, (fun _ j hj => upd_on (hw j hj)), hR.w7.o, hR.w8.o, hR.w9.o, hR.w10.o, hR.w11.o, hR.w12.o, hR.w13.o, hR.w14.o, hR.w15.o, hR.w16.o, hR.w17.o, hR.w18.o, hR.w19.o, hR.w20.o, hR.w21.o, hR.w22.o, hR.w23.o, hR.w24.o, hR.w25.o, hR.w26.o, hR.f0.k, hR.f1.k, hR.f2.k, hR.f3.k, hR.f4.k, (fun _ => rfl), (fun _ => rfl), hR.f7.k, hR.f8.k, hR.f9.k, hR.f10.k, hR.f11.k, hR.f12.k, hR.f13.k, hR.f14.k, hR.f15.k, hR.f16.k, hR.f17.k, hR.f18.k, hR.f19.k, hR.f20.k, hR.f21.k, hR.f22.k, hR.f23.k, hR.f24.k, hR.f25.k, hR.f26.k⟩⟩
                    refine EachOf.cons [6] rfl (by kernel_rfl) ?_ ?_
                    · rintro L A W ⟨v, rfl, hR⟩ hi hw K hK
                      have e6 := hR.f6 (hw 6 (by simp))
                      simp only [e6]
                      clear e6
                      go_simp
                      refine hK.out _ _ ?_
                      exact ⟨(fun jz => if jz = 43 then .bool false else if jz = 44 then .bool false else v jz), rfl, ⟨hR.st, hR.w3.o, hR.w4.o, hR.w5.o, hR.w6.o, (fun _ j hj => upd_on (hw j hj)), hR.w8.o, hR.w9.o, hR.w10.o, hR.w11.o, hR.w12.o, hR.w13.o, hR.w14.o, hR.w15.o, hR.w16.o, hR.w17.o, hR.w18.o, hR.w19.o, hR.w20.o, hR.w21.o, hR.w22.o, hR.w23.o, hR.w24.o, hR.w25.o, hR.w26.o, hR.f0.k, hR.f1.k, hR.f2.k, hR.f3.k, hR.f4.k, hR.f5.k, (fun _ => rfl), (fun _ => rfl), hR.f8.k, hR.f9.k, hR.f10.k, hR.f11.k, hR.f12.k, hR.f13.k, hR.f14.k, hR.f15.k, hR.f16.k, hR.f17.k, hR.f18.k, hR.f19.k, hR.f20.k, hR.f21.k, hR.f22.k, hR.f23.k, hR.f24.k, hR.f25.k, hR.f26.k⟩⟩
                    refine EachOf.cons [7] rfl (by kernel_rfl) ?_ ?_
                    · rintro L A W ⟨v, rfl, hR⟩ hi hw K hK
                      have e7 := hR.f7 (hw 7 (by simp))
                      simp only [e7]
                      clear e7
                      go_simp
                      refine hK.out _ _ ?_
                      exact ⟨(fun jz => if jz = 44 then .bool false else if jz = 45 then .slice ra n c else v jz), rfl, ⟨hR.st, hR.w3.o, hR.w4.o, hR.w5.o, hR.w6.o, hR.w7.o, (fun _ j hj => upd_on (hw j hj)), hR.w9.o, hR.w10.o, hR.w11.o, hR.w12.o, hR.w13.o, hR.w14.o, hR.w15.o, hR.w16.o, hR.w17.o, hR.w18.o, hR.w19.o, hR.w20.o, hR.w21.o, hR.w22.o, hR.w23.o, hR.w24.o, hR.w25.o, hR.w26.o, hR.f0.k, hR.f1.k, hR.f2.k, hR.f3.k, hR.f4.k, hR.f5.k, hR.f6.k, (fun _ => rfl), (fun _ => rfl), hR.f9.k, hR.f10.k, hR.f11.k, hR.f12.k, hR.f13.k, hR.f14.k, hR.f15.k, hR.f16.k, hR.f17.k, hR.f18.k, hR.f19.k, hR.f20.k, hR.f21.k, hR.f22.k, hR.f23.k, hR.f24.k, hR.f25.k, hR.f26.k⟩⟩
                    refine EachOf.cons [7] rfl (by kernel_rfl) ?_ ?_
                    · rintro L A W ⟨v, rfl, hR⟩ hi hw K hK
                      have e7 := hR.f7 (hw 7 (by simp))
                      simp only [e7]
                      clear e7
                      go_simp
                      refine hK.out _ _ ?_
                      exact ⟨(fun jz => if jz = 44 then .bool false else if jz = 46 then .int .i64 (p : Int) else v jz), rfl, ⟨hR.st, hR.w3.o, hR.w4.o, hR.w5.o, hR.w6.o, hR.w7.o, hR.w8.o, (fun _ j hj => upd_on (hw j hj)), hR.w10.o, hR.w11.o, hR.w12.o, hR.w13.o, hR.w14.o, hR.w15.o, hR.w16.o, hR.w17.o, hR.w18.o, hR.w19.o, hR.w20.o, hR.w21.o, hR.w22.o, hR.w23.o, hR.w24.o, hR.w25.o, hR.w26.o, hR.f0.k, hR.f1.k, hR.f2.k, hR.f3.k, hR.f4.k, hR.f5.k, hR.f6.k, (fun _ => rfl), hR.f8.k, (fun _ => rfl), hR.f10.k, hR.f11.k, hR.f12.k, hR.f13.k, hR.f14.k, hR.f15.k, hR.f16.k, hR.f17.k, hR.f18.k, hR.f19.k, hR.f20.k, hR.f21.k, hR.f22.k, hR.f23.k, hR.f24.k, hR.f25.k, hR.f26.k⟩⟩
                    refine EachOf.cons [7, 8, 9] rfl (by kernel_rfl) ?_ ?_
                    · rintro L A W ⟨v, rfl, hR⟩ hi hw K hK
                      have e8 := hR.f8 (hw 8 (by simp))
                      have e9 := hR.f9 (hw 9 (by simp))
                      have e7 := hR.f7 (hw 7 (by simp))
                      simp only [e8, e9, e7]
                      clear e8 e9 e7
                      go_simp
                      go_at_call 29
                      (with_reducible refine ((CSp _ (below_on HB2.out hR.st)).out).mono ?_)
                      rintro e w2 ⟨rfl, rfl⟩
                      go_simp
                      refine hK.out _ _ ?_
                      exact ⟨(fun jz => if jz = 45 then .slice ra n c else if jz = 46 then .int .i64 (p : Int) else if jz = 44 then .bool false else if jz = 47 then .int .i64 0 else v jz), rfl, ⟨hR.st, hR.w3.o, hR.w4.o, hR.w5.o, hR.w6.o, hR.w7.o, hR.w8.o, hR.w9.o, (fun _ j hj => upd_on (hw j hj)), hR.w11.o, hR.w12.o, hR.w13.o, hR.w14.o, hR.w15.o, hR.w16.o, hR.w17.o, hR.w18.o, hR.w19.o, hR.w20.o, hR.w21.o, hR.w22.o, hR.w23.o, hR.w24.o, hR.w25.o, hR.w26.o, hR.f0.k, hR.f1.k, hR.f2.k, hR.f3.k, hR.f4.k, hR.f5.k, hR.f6.k, (fun _ => rfl), (fun _ => rfl), (fun _ => rfl), (fun _ => rfl), hR.f11.k, hR.f12.k, hR.f13.k, hR.f14.k, hR.f15.k, hR.f16.k, hR.f17.k, hR.f18.k, hR.f19.k, hR.f20.k, hR.f21.k, hR.f22.k, hR.f23.k, hR.f24.k, hR.f25.k, hR.f26.k⟩⟩
                    refine EachOf.cons [7, 10] rfl (by kernel_rfl) ?_ ?_
                    · rintro L A W ⟨v, rfl, hR⟩ hi hw K hK
                      have e10 := hR.f10 (hw 10 (by simp))
                      have e7 := hR.f7 (hw 7 (by simp))
                      simp only [e10, e7]
                      clear e10 e7
                      go_simp
                      refine hK.out _ _ ?_
                      exact ⟨(fun jz => if jz = 47 then .int .i64 0 else if jz = 44 then .bool false else if jz = 48 then .bool false else v jz), rfl, ⟨hR.st, hR.w3.o, hR.w4.o, hR.w5.o, hR.w6.o, hR.w7.o, hR.w8.o, hR.w9.o, hR.w10.o, (fun _ j hj => upd_on (hw j hj)), hR.w12.o, hR.w13.o, hR.w14.o, hR.w15.o, hR.w16.o, hR.w17.o, hR.w18.o, hR.w19.o, hR.w20.o, hR.w21.o, hR.w22.o, hR.w23.o, hR.w24.o, hR.w25.o, hR.w26.o, hR.f0.k, hR.f1.k, hR.f2.k, hR.f3.k, hR.f4.k, hR.f5.k, hR.f6.k, (fun _ => rfl), hR.f8.k, hR.f9.k, (fun _ => rfl), (fun _ => rfl), hR.f12.k, hR.f13.k, hR.f14.k, hR.f15.k, hR.f16.k, hR.f17.k, hR.f18.k, hR.f19.k, hR.f20.k, hR.f21.k, hR.f22.k, hR.f23.k, hR.f24.k, hR.f25.k, hR.f26.k⟩⟩
                    refine EachOf.cons [7, 11] rfl (by kernel_rfl) ?_ ?_
                    · rintro L A W ⟨v, rfl, hR⟩ hi hw K hK
                      have e7 := hR.f7 (hw 7 (by simp))
                      have e11 := hR.f11 (hw 11 (by simp))
                      simp only [e7, e11]
                      clear e7 e11
                      go_simp
                      refine hK.out _ _ ?_
                      exact ⟨(fun jz => if jz = 44 then .bool false else if jz = 48 then .bool false else if jz = 49 then .bool false else v jz), rfl, ⟨hR.st, hR.w3.o, hR.w4.o, hR.w5.o, hR.w6.o, hR.w7.o, hR.w8.o, hR.w9.o, hR.w10.o, hR.w11.o, (fun _ j hj => upd_on (hw j hj)), hR.w13.o, hR.w14.o, hR.w15.o, hR.w16.o, hR.w17.o, hR.w18.o, hR.w19.o, hR.w20.o, hR.w21.o, hR.w22.o, hR.w23.o, hR.w24.o, hR.w25.o, hR.w26.o, hR.f0.k, hR.f1.k, hR.f2.k, hR.f3.k, hR.f4.k, hR.f5.k, hR.f6.k, (fun _ => rfl), hR.f8.k, hR.f9.k, hR.f10.k, (fun _ => rfl), (fun _ => rfl), hR.f13.k, hR.f14.k, hR.f15.k, hR.f16.k, hR.f17.k, hR.f18.k, hR.f19.k, hR.f20.k, hR.f21.k, hR.f22.k, hR.f23.k, hR.f24.k, hR.f25.k, hR.f26.k⟩⟩
                    refine EachOf.cons [12] rfl (by kernel_rfl) ?_ ?_
                    · rintro L A W ⟨v, rfl, hR⟩ hi hw K hK
                      have e12 := hR.f12 (hw 12 (by simp))
                      simp only [e12]
                      clear e12
                      go_simp
                      refine hK.out _ _ ?_
                      exact ⟨(fun jz => if jz = 49 then .bool false else if jz = 50 then .bool false else v jz), rfl, ⟨hR.st, hR.w3.o, hR.w4.o, hR.w5.o, hR.w6.o, hR.w7.o, hR.w8.o, hR.w9.o, hR.w10.o, hR.w11.o, hR.w12.o, (fun _ j hj => upd_on (hw j hj)), hR.w14.o, hR.w15.o, hR.w16.o, hR.w17.o, hR.w18.o, hR.w19.o, hR.w20.o, hR.w21.o, hR.w22.o, hR.w23.o, hR.w24.o, hR.w25.o, hR.w26.o, hR.f0.k, hR.f1.k, hR.f2.k, hR.f3.k, hR.f4.k, hR.f5.k, hR.f6.k, hR.f7.k, hR.f8.k, hR.f9.k, hR.f10.k, hR.f11.k, (fun _ => rfl), (fun _ => rfl), hR.f14.k, hR.f15.k, hR.f16.k, hR.f17.k, hR.f18.k, hR.f19.k, hR.f20.k, hR.f21.k, hR.f22.k, hR.f23.k, hR.f24.k, hR.f25.k, hR.f26.k⟩⟩
                    refine EachOf.cons [13] rfl (by kernel_rfl) ?_ ?_
                    · rintro L A W ⟨v, rfl, hR⟩ hi hw K hK
                      have e13 := hR.f13 (hw 13 (by simp))
                      simp only [e13]
                      clear e13
                      go_simp
                      refine hK.out _ _ ?_
                      exact ⟨(fun jz => if jz = 50 then .bool false else if jz = 51 then .slice (some ⟨g, 0, none⟩) (M) (cp) else v jz), rfl, ⟨hR.st, hR.w3.o, hR.w4.o, hR.w5.o, hR.w6.o, hR.w7.o, hR.w8.o, hR.w9.o, hR.w10.o, hR.w11.o, hR.w12.o, hR.w13.o, (fun _ j hj => upd_on (hw j hj)), hR.w15.o, hR.w16.o, hR.w17.o, hR.w18.o, hR.w19.o, hR.w20.o, hR.w21.o, hR.w22.o, hR.w23.o, hR.w24.o, hR.w25.o, hR.w26.o, hR.f0.k, hR.f1.k, hR.f2.k, hR.f3.k, hR.f4.k, hR.f5.k, hR.f6.k, hR.f7.k, hR.f8.k, hR.f9.k, hR.f10.k, hR.f11.k, hR.f12.k, (fun _ => rfl), (fun _ => rfl), hR.f15.k, hR.f16.k, hR.f17.k, hR.f18.k, hR.f19.k, hR.f20.k, hR.f21.k, hR.f22.k, hR.f23.k, hR.f24.k, hR.f25.k, hR.f26.k⟩⟩
                    refine EachOf.cons [13] rfl (by kernel_rfl) ?_ ?_
                    · rintro L A W ⟨v, rfl, hR⟩ hi hw K hK
                      have e13 := hR.f13 (hw 13 (by simp))
                      simp only [e13]
                      clear e13
                      go_simp
                      refine hK.out _ _ ?_
                      exact ⟨(fun jz => if jz = 50 then .bool false else if jz = 52 then .int .i64 (left : Int) else v jz), rfl, ⟨hR.st, hR.w3.o, hR.w4.o, hR.w5.o, hR.w6.o, hR.w7.o, hR.w8.o, hR.w9.o, hR.w10.o, hR.w11.o, hR.w12.o, hR.w13.o, hR.w14.o, (fun _ j hj => upd_on (hw j hj)), hR.w16.o, hR.w17.o, hR.w18.o, hR.w19.o, hR.w20.o, hR.w21.o, hR.w22.o, hR.w23.o, hR.w24.o, hR.w25.o, hR.w26.o, hR.f0.k, hR.f1.k, hR.f2.k, hR.f3.k, hR.f4.k, hR.f5.k, hR.f6.k, hR.f7.k, hR.f8.k, hR.f9.k, hR.f10.k, hR.f11.k, hR.f12.k, (fun _ => rfl), hR.f14.k, (fun _ => rfl), hR.f16.k, hR.f17.k, hR.f18.k, hR.f19.k, hR.f20.k, hR.f21.k, hR.f22.k, hR.f23.k, hR.f24.k, hR.f25.k, hR.f26.k⟩⟩
                    refine EachOf.cons [13] rfl (by kernel_rfl) ?_ ?_
                    · rintro L A W ⟨v, rfl, hR⟩ hi hw K hK
                      have e13 := hR.f13 (hw 13 (by simp))
                      simp only [e13]
                      clear e13
                      go_simp
                      refine hK.out _ _ ?_
                      exact ⟨(fun jz => if jz = 50 then .bool false else if jz = 53 then .int .i64 (p : Int) else v jz), rfl, ⟨hR.st, hR.w3.o, hR.w4.o, hR.w5.o, hR.w6.o, hR.w7.o, hR.w8.o, hR.w9.o, hR.w10.o, hR.w11.o, hR.w12.o, hR.w13.o, hR.w14.o, hR.w15.o, (fun _ j hj => upd_on (hw j hj)), hR.w17.o, hR.w18.o, hR.w19.o, hR.w20.o, hR.w21.o, hR.w22.o, hR.w23.o, hR.w24.o, hR.w25.o, hR.w26.o, hR.f0.k, hR.f1.k, hR.f2.k, hR.f3.k, hR.f4.k, hR.f5.k, hR.f6.k, hR.f7.k, hR.f8.k, hR.f9.k, hR.f10.k, hR.f11.k, hR.f12.k, (fun _ => rfl), hR.f14.k, hR.f15.k, (fun _ => rfl), hR.f17.k, hR.f18.k, hR.f19.k, hR.f20.k, hR.f21.k, hR.f22.k, hR.f23.k, hR.f24.k, hR.f25.k, hR.f26.k⟩⟩
                    refine EachOf.cons [13, 15, 16] rfl (by kernel_rfl) ?_ ?_
                    · rintro L A W ⟨v, rfl, hR⟩ hi hw K hK
                      have e15 := hR.f15 (hw 15 (by simp))
                      have e16 := hR.f16 (hw 16 (by simp))
                      have e13 := hR.f13 (hw 13 (by simp))
                      simp only [e15, e16, e13]
                      clear e15 e16 e13
                      go_simp
                      refine hK.out _ _ ?_
                      exact ⟨(fun jz => if jz = 52 then .int .i64 (left : Int) else if jz = 53 then .int .i64 (p : Int) else if jz = 50 then .bool false else if jz = 54 then .int .i64 (d : Int) else v jz), rfl, ⟨hR.st, hR.w3.o, hR.w4.o, hR.w5.o, hR.w6.o, hR.w7.o, hR.w8.o, hR.w9.o, hR.w10.o, hR.w11.o, hR.w12.o, hR.w13.o, hR.w14.o, hR.w15.o, hR.w16.o, (fun _ j hj => upd_on (hw j hj)), hR.w18.o, hR.w19.o, hR.w20.o, hR.w21.o, hR.w22.o, hR.w23.o, hR.w24.o, hR.w25.o, hR.w26.o, hR.f0.k, hR.f1.k, hR.f2.k, hR.f3.k, hR.f4.k, hR.f5.k, hR.f6.k, hR.f7.k, hR.f8.k, hR.f9.k, hR.f10.k, hR.f11.k, hR.f12.k, (fun _ => rfl), hR.f14.k, (fun _ => rfl), (fun _ => rfl), (fun _ => rfl), hR.f18.k, hR.f19.k, hR.f20.k, hR.f21.k, hR.f22.k, hR.f23.k, hR.f24.k, hR.f25.k, hR.f26.k⟩⟩
                    refine EachOf.cons [13, 14, 17] rfl (by kernel_rfl) ?_ ?_
                    · rintro L A W ⟨v, rfl, hR⟩ hi hw K hK
                      have e14 := hR.f14 (hw 14 (by simp))
                      have e17 := hR.f17 (hw 17 (by simp))
                      have e13 := hR.f13 (hw 13 (by simp))
                      simp only [e14, e17, e13]
                      clear e14 e17 e13
                      go_simp
                      refine hK.out _ _ ?_
                      exact ⟨(fun jz => if jz = 51 then .slice (some ⟨g, 0, none⟩) (M) (cp) else if jz = 54 then .int .i64 (d : Int) else if jz = 50 then .bool false else if jz = 55 then .pointer (some ⟨g, d, none⟩) else v jz), rfl, ⟨hR.st, hR.w3.o, hR.w4.o, hR.w5.o, hR.w6.o, hR.w7.o, hR.w8.o, hR.w9.o, hR.w10.o, hR.w11.o, hR.w12.o, hR.w13.o, hR.w14.o, hR.w15.o, hR.w16.o, hR.w17.o, (fun _ j hj => upd_on (hw j hj)), hR.w19.o, hR.w20.o, hR.w21.o, hR.w22.o, hR.w23.o, hR.w24.o, hR.w25.o, hR.w26.o, hR.f0.k, hR.f1.k, hR.f2.k, hR.f3.k, hR.f4.k, hR.f5.k, hR.f6.k, hR.f7.k, hR.f8.k, hR.f9.k, hR.f10.k, hR.f11.k, hR.f12.k, (fun _ => rfl), (fun _ => rfl), hR.f15.k, hR.f16.k, (fun _ => rfl), (fun _ => rfl), hR.f19.k, hR.f20.k, hR.f21.k, hR.f22.k, hR.f23.k, hR.f24.k, hR.f25.k, hR.f26.k⟩⟩
                    refine EachOf.cons [13, 18] rfl (by kernel_rfl) ?_ ?_
                    · rintro L A W ⟨v, rfl, hR⟩ hi hw K hK
                      have e18 := hR.f18 (hw 18 (by simp))
                      have e13 := hR.f13 (hw 13 (by simp))
                      simp only [e18, e13]
                      clear e18 e13
                      have q0 := (hR.st.cell (p := ⟨g, d, none⟩) LD.out.2).trans LD.out.1
                      go_simp
                      refine hK.out _ _ ?_
                      exact ⟨(fun jz => if jz = 55 then .pointer (some ⟨g, d, none⟩) else if jz = 50 then .bool false else if jz = 56 then .int .i64 z else v jz), rfl, ⟨hR.st, hR.w3.o, hR.w4.o, hR.w5.o, hR.w6.o, hR.w7.o, hR.w8.o, hR.w9.o, hR.w10.o, hR.w11.o, hR.w12.o, hR.w13.o, hR.w14.o, hR.w15.o, hR.w16.o, hR.w17.o, hR.w18.o, (fun _ j hj => upd_on (hw j hj)), hR.w20.o, hR.w21.o, hR.w22.o, hR.w23.o, hR.w24.o, hR.w25.o, hR.w26.o, hR.f0.k, hR.f1.k, hR.f2.k, hR.f3.k, hR.f4.k, hR.f5.k, hR.f6.k, hR.f7.k, hR.f8.k, hR.f9.k, hR.f10.k, hR.f11.k, hR.f12.k, (fun _ => rfl), hR.f14.k, hR.f15.k, hR.f16.k, hR.f17.k, (fun _ => rfl), (fun _ => rfl), hR.f20.k, hR.f21.k, hR.f22.k, hR.f23.k, hR.f24.k, hR.f25.k, hR.f26.k⟩⟩
                    refine EachOf.cons [13] rfl (by kernel_rfl) ?_ ?_
                    · rintro L A W ⟨v, rfl, hR⟩ hi hw K hK
                      have e13 := hR.f13 (hw 13 (by simp))
                      simp only [e13]
                      clear e13
                      go_simp
                      refine hK.out _ _ ?_
                      exact ⟨(fun jz => if jz = 50 then .bool false else if jz = 57 then .slice (some ⟨g, 0, none⟩) (M) (cp) else v jz), rfl, ⟨hR.st, hR.w3.o, hR.w4.o, hR.w5.o, hR.w6.o, hR.w7.o, hR.w8.o, hR.w9.o, hR.w10.o, hR.w11.o, hR.w12.o, hR.w13.o, hR.w14.o, hR.w15.o, hR.w16.o, hR.w17.o, hR.w18.o, hR.w19.o, (fun _ j hj => upd_on (hw j hj)), hR.w21.o, hR.w22.o, hR.w23.o, hR.w24.o, hR.w25.o, hR.w26.o, hR.f0.k, hR.f1.k, hR.f2.k, hR.f3.k, hR.f4.k, hR.f5.k, hR.f6.k, hR.f7.k, hR.f8.k, hR.f9.k, hR.f10.k, hR.f11.k, hR.f12.k, (fun _ => rfl), hR.f14.k, hR.f15.k, hR.f16.k, hR.f17.k, hR.f18.k, hR.f19.k, (fun _ => rfl), hR.f21.k, hR.f22.k, hR.f23.k, hR.f24.k, hR.f25.k, hR.f26.k⟩⟩
                    refine EachOf.cons [13] rfl (by kernel_rfl) ?_ ?_
                    · rintro L A W ⟨v, rfl, hR⟩ hi hw K hK
                      have e13 := hR.f13 (hw 13 (by simp))
                      simp only [e13]
                      clear e13
                      go_simp
                      refine hK.out _ _ ?_
                      exact ⟨(fun jz => if jz = 50 then .bool false else if jz = 58 then .int .i64 (left : Int) else v jz), rfl, ⟨hR.st, hR.w3.o, hR.w4.o, hR.w5.o, hR.w6.o, hR.w7.o, hR.w8.o, hR.w9.o, hR.w10.o, hR.w11.o, hR.w12.o, hR.w13.o, hR.w14.o, hR.w15.o, hR.w16.o, hR.w17.o, hR.w18.o, hR.w19.o, hR.w20.o, (fun _ j hj => upd_on (hw j hj)), hR.w22.o, hR.w23.o, hR.w24.o, hR.w25.o, hR.w26.o, hR.f0.k, hR.f1.k, hR.f2.k, hR.f3.k, hR.f4.k, hR.f5.k, hR.f6.k, hR.f7.k, hR.f8.k, hR.f9.k, hR.f10.k, hR.f11.k, hR.f12.k, (fun _ => rfl), hR.f14.k, hR.f15.k, hR.f16.k, hR.f17.k, hR.f18.k, hR.f19.k, hR.f20.k, (fun _ => rfl), hR.f22.k, hR.f23.k, hR.f24.k, hR.f25.k, hR.f26.k⟩⟩
                    refine EachOf.cons [13, 20, 21] rfl (by kernel_rfl) ?_ ?_
                    · rintro L A W ⟨v, rfl, hR⟩ hi hw K hK
                      have e20 := hR.f20 (hw 20 (by simp))
                      have e21 := hR.f21 (hw 21 (by simp))
                      have e13 := hR.f13 (hw 13 (by simp))
                      simp only [e20, e21, e13]
                      clear e20 e21 e13
                      go_simp
                      refine hK.out _ _ ?_
                      exact ⟨(fun jz => if jz = 57 then .slice (some ⟨g, 0, none⟩) (M) (cp) else if jz = 58 then .int .i64 (left : Int) else if jz = 50 then .bool false else if jz = 59 then .pointer (some ⟨g, left, none⟩) else v jz), rfl, ⟨hR.st, hR.w3.o, hR.w4.o, hR.w5.o, hR.w6.o, hR.w7.o, hR.w8.o, hR.w9.o, hR.w10.o, hR.w11.o, hR.w12.o, hR.w13.o, hR.w14.o, hR.w15.o, hR.w16.o, hR.w17.o, hR.w18.o, hR.w19.o, hR.w20.o, hR.w21.o, (fun _ j hj => upd_on (hw j hj)), hR.w23.o, hR.w24.o, hR.w25.o, hR.w26.o, hR.f0.k, hR.f1.k, hR.f2.k, hR.f3.k, hR.f4.k, hR.f5.k, hR.f6.k, hR.f7.k, hR.f8.k, hR.f9.k, hR.f10.k, hR.f11.k, hR.f12.k, (fun _ => rfl), hR.f14.k, hR.f15.k, hR.f16.k, hR.f17.k, hR.f18.k, hR.f19.k, (fun _ => rfl), (fun _ => rfl), (fun _ => rfl), hR.f23.k, hR.f24.k, hR.f25.k, hR.f26.k⟩⟩
                    refine EachOf.cons [13, 22] rfl (by kernel_rfl) ?_ ?_
                    · rintro L A W ⟨v, rfl, hR⟩ hi hw K hK
                      have e22 := hR.f22 (hw 22 (by simp))
                      have e13 := hR.f13 (hw 13 (by simp))
                      simp only [e22, e13]
                      clear e22 e13
                      have q0 := (hR.st.cell (p := ⟨g, left, none⟩) LL.out.2).trans LL.out.1
                      go_simp
                      refine hK.out _ _ ?_
                      exact ⟨(fun jz => if jz = 59 then .pointer (some ⟨g, left, none⟩) else if jz = 50 then .bool false else if jz = 60 then .int .i64 y else v jz), rfl, ⟨hR.st, hR.w3.o, hR.w4.o, hR.w5.o, hR.w6.o, hR.w7.o, hR.w8.o, hR.w9.o, hR.w10.o, hR.w11.o, hR.w12.o, hR.w13.o, hR.w14.o, hR.w15.o, hR.w16.o, hR.w17.o, hR.w18.o, hR.w19.o, hR.w20.o, hR.w21.o, hR.w22.o, (fun _ j hj => upd_on (hw j hj)), hR.w24.o, hR.w25.o, hR.w26.o, hR.f0.k, hR.f1.k, hR.f2.k, hR.f3.k, hR.f4.k, hR.f5.k, hR.f6.k, hR.f7.k, hR.f8.k, hR.f9.k, hR.f10.k, hR.f11.k, hR.f12.k, (fun _ => rfl), hR.f14.k, hR.f15.k, hR.f16.k, hR.f17.k, hR.f18.k, hR.f19.k, hR.f20.k, hR.f21.k, (fun _ => rfl), (fun _ => rfl), hR.f24.k, hR.f25.k, hR.f26.k⟩⟩
                    refine EachOf.cons [13, 23] rfl (by kernel_rfl) ?_ ?_
                    · rintro L A W ⟨v, rfl, hR⟩ hi hw K hK
                      have e23 := hR.f23 (hw 23 (by simp))
                      have e13 := hR.f13 (hw 13 (by simp))
                      simp only [e23, e13]
                      clear e23 e13
                      go_simp
                      refine hK.out _ _ ?_
                      exact ⟨(fun jz => if jz = 60 then .int .i64 y else if jz = 50 then .bool false else if jz = 61 then .int .i64 y1 else v jz), rfl, ⟨hR.st, hR.w3.o, hR.w4.o, hR.w5.o, hR.w6.o, hR.w7.o, hR.w8.o, hR.w9.o, hR.w10.o, hR.w11.o, hR.w12.o, hR.w13.o, hR.w14.o, hR.w15.o, hR.w16.o, hR.w17.o, hR.w18.o, hR.w19.o, hR.w20.o, hR.w21.o, hR.w22.o, hR.w23.o, (fun _ j hj => upd_on (hw j hj)), hR.w25.o, hR.w26.o, hR.f0.k, hR.f1.k, hR.f2.k, hR.f3.k, hR.f4.k, hR.f5.k, hR.f6.k, hR.f7.k, hR.f8.k, hR.f9.k, hR.f10.k, hR.f11.k, hR.f12.k, (fun _ => rfl), hR.f14.k, hR.f15.k, hR.f16.k, hR.f17.k, hR.f18.k, hR.f19.k, hR.f20.k, hR.f21.k, hR.f22.k, (fun _ => rfl), (fun _ => rfl), hR.f25.k, hR.f26.k⟩⟩
                    refine EachOf.cons [13, 19, 24] rfl (by kernel_rfl) ?_ ?_
                    · rintro L A W ⟨v, rfl, hR⟩ hi hw K hK
                      have e19 := hR.f19 (hw 19 (by simp))
                      have e24 := hR.f24 (hw 24 (by simp))
                      have e13 := hR.f13 (hw 13 (by simp))
                      simp only [e19, e24, e13]
                      clear e19 e24 e13
                      go_simp
                      refine hK.out _ _ ?_
                      exact ⟨(fun jz => if jz = 56 then .int .i64 z else if jz = 61 then .int .i64 y1 else if jz = 50 then .bool false else if jz = 62 then .bool false else v jz), rfl, ⟨hR.st, hR.w3.o, hR.w4.o, hR.w5.o, hR.w6.o, hR.w7.o, hR.w8.o, hR.w9.o, hR.w10.o, hR.w11.o, hR.w12.o, hR.w13.o, hR.w14.o, hR.w15.o, hR.w16.o, hR.w17.o, hR.w18.o, hR.w19.o, hR.w20.o, hR.w21.o, hR.w22.o, hR.w23.o, hR.w24.o, (fun _ j hj => upd_on (hw j hj)), hR.w26.o, hR.f0.k, hR.f1.k, hR.f2.k, hR.f3.k, hR.f4.k, hR.f5.k, hR.f6.k, hR.f7.k, hR.f8.k, hR.f9.k, hR.f10.k, hR.f11.k, hR.f12.k, (fun _ => rfl), hR.f14.k, hR.f15.k, hR.f16.k, hR.f17.k, hR.f18.k, (fun _ => rfl), hR.f20.k, hR.f21.k, hR.f22.k, hR.f23.k, (fun _ => rfl), (fun _ => rfl), hR.f26.k⟩⟩
                    refine EachOf.cons [13, 25] rfl (by kernel_rfl) ?_ ?_
                    · rintro L A W ⟨v, rfl, hR⟩ hi hw K hK
                      have e13 := hR.f13 (hw 13 (by simp))
                      have e25 := hR.f25 (hw 25 (by simp))
                      simp only [e13, e25]
                      clear e13 e25
                      go_simp
                      refine hK.out _ _ ?_
                      exact ⟨(fun jz => if jz = 50 then .bool false else if jz = 62 then .bool false else if jz = 63 then .bool false else v jz), rfl, ⟨hR.st, hR.w3.o, hR.w4.o, hR.w5.o, hR.w6.o, hR.w7.o, hR.w8.o, hR.w9.o, hR.w10.o, hR.w11.o, hR.w12.o, hR.w13.o, hR.w14.o, hR.w15.o, hR.w16.o, hR.w17.o, hR.w18.o, hR.w19.o, hR.w20.o, hR.w21.o, hR.w22.o, hR.w23.o, hR.w24.o, hR.w25.o, (fun _ j hj => upd_on (hw j hj)), hR.f0.k, hR.f1.k, hR.f2.k, hR.f3.k, hR.f4.k, hR.f5.k, hR.f6.k, hR.f7.k, hR.f8.k, hR.f9.k, hR.f10.k, hR.f11.k, hR.f12.k, (fun _ => rfl), hR.f14.k, hR.f15.k, hR.f16.k, hR.f17.k, hR.f18.k, hR.f19.k, hR.f20.k, hR.f21.k, hR.f22.k, hR.f23.k, hR.f24.k, (fun _ => rfl), (fun _ => rfl)⟩⟩
                    exact EachOf.nil
                  · rintro L A W ⟨vv, rfl, hR⟩ hall
                    have hst := Lib.hid (below_on HU.out hR.st)
                    have e26 := hR.f26 (hall 26 (by simp))
                    simp only [e26]
                    clear hR e26 hall
                    cases hE : earl lq lt with
                    | true =>
                      rw [hE] at CE
                      have T2 := Lib.hid (HTK2.out hE)
                      clear HTK2 HSY2 hE
                      go_wp2_with (first
                        | (go_at_call 31; (with_reducible refine (((CIp _).out).mono ?_)); rintro e w2 ⟨hb2, xa, xc, rfl, hown⟩; have HX := Lib.hid (own_idx hown); have HBS := Lib.hid (below_on hst.out hb2))
                        | (go_at_call 31; (with_reducible refine (((CIb _).out).mono ?_)); rintro e w2 ⟨hb2, ya, yc, rfl, hown2⟩; have HY := Lib.hid (own_idx hown2); have HX := Lib.hid (HX.out.on hb2); have HBS := Lib.hid (below_on HBS.out hb2))
                        | (go_at_call 30; (with_reducible refine (((CE _ _ _ _ _ HX.out HY.out).out).mono ?_)); rintro e w3 ⟨rfl, hb3⟩; have HBS := Lib.hid (below_on HBS.out hb3)))
                      go_roundg (2 * v)
                      case measure => omega
                      case rel => exact ⟨v, p, rfl, rfl, rfl, by omega, hp, HBS.out, T2.out, hsub⟩
                    | false =>
                      rw [hE] at CE
                      have T2 := Lib.hid (HSY2.out hE)
                      clear HTK2 HSY2 hE
                      go_wp2_with (first
                        | (go_at_call 31; (with_reducible refine (((CIp _).out).mono ?_)); rintro e w2 ⟨hb2, xa, xc, rfl, hown⟩; have HX := Lib.hid (own_idx hown); have HBS := Lib.hid (below_on hst.out hb2))
                        | (go_at_call 31; (with_reducible refine (((CIb _).out).mono ?_)); rintro e w2 ⟨hb2, ya, yc, rfl, hown2⟩; have HY := Lib.hid (own_idx hown2); have HX := Lib.hid (HX.out.on hb2); have HBS := Lib.hid (below_on HBS.out hb2))
                        | (go_at_call 30; (with_reducible refine (((CE _ _ _ _ _ HX.out HY.out).out).mono ?_)); rintro e w3 ⟨rfl, hb3⟩; have HBS := Lib.hid (below_on HBS.out hb3)))
                      go_roundg (2 * v)
                      case measure => omega
                      case rel => exact ⟨v, b, rfl, rfl, rfl, by omega, hb, HBS.out, T2.out, hsub⟩
              · have q3 : (z != y1) = true := by simp; exact hzy
                have T2 := Lib.hid (HSK.out (fun hc => hzy (HQQ.out.1.1 hc).2))
                clear HSK HTK HSY hA HQQ hTp hzy
                generalize p &&& lw = u at *
                generalize hv : (p - 1) &&& left = v at *
                go_upto_region 15 with fail
                refine wp_region_each (fun L A W => ∃ (v : Nat → Value), A = ⟨#[_, _, _, _, _, _, _, _, _, _, _, _, _, _, _, _, _, _, _, _, _, _, _, _, _, _, _, _, _, _, _, _, _, _, _, _, _, v 37, v 38, v 39, v 40, v 41, v 42, v 43, v 44, v 45, v 46, v 47, v 48, v 49, v 50, v 51, v 52, v 53, v 54, v 55, v 56, v 57, v 58, v 59, v 60, v 61, v 62, v 63, _, _, _, _, _, _, _, _, _, _, _, _, _, _, _, _, _, _, _, _, _, _], []⟩ ∧ RpcR g M cp left p lw u d 0 z y y1 true (.slice ra n c) W2 L v W) (by kernel_rfl) (by kernel_rfl) ⟨fun jz => if jz = 37 then u37 else if jz = 38 then u38 else if jz = 39 then u39 else if jz = 40 then u40 else if jz = 41 then u41 else if jz = 42 then u42 else if jz = 43 then u43 else if jz = 44 then u44 else if jz = 45 then u45 else if jz = 46 then u46 else if jz = 47 then u47 else if jz = 48 then u48 else if jz = 49 then u49 else if jz = 50 then u50 else if jz = 51 then u51 else if jz = 52 then u52 else if jz = 53 then u53 else if jz = 54 then u54 else if jz = 55 then u55 else if jz = 56 then u56 else if jz = 57 then u57 else if jz = 58 then u58 else if jz = 59 then u59 else if jz = 60 then u60 else if jz = 61 then u61 else if jz = 62 then u62 else if jz = 63 then u63 else undef, rfl, ⟨Below.drew (Below.refl _ _), Had.none, Had.none, Had.none, Had.none, Had.none, Had.none, Had.none, Had.none, Had.none, Had.none, Had.none, Had.none, Had.none, Had.none, Had.none, Had.none, Had.none, Had.none, Had.none, Had.none, Had.none, Had.none, Had.none, Had.none, Had.none, Had.none, Had.none, Had.none, Had.none, Had.none, Had.none, Had.none, Had.none, Had.none, Had.none, Had.none, Had.none, Had.none, Had.none, Had.none, Had.none, Had.none, Had.none, Had.none, Had.none, Had.none, Had.none, Had.none, Had.none, Had.none, Had.none⟩⟩ (rs := [0, 1, 2, 3, 4, 5, 6, 7, 8, 9, 10, 11, 12, 13, 14, 15, 16, 17, 18, 19, 20, 21, 22, 23, 24, 25, 26]) (by kernel_rfl) ?_ ?_
                · refine EachOf.cons [] rfl (by kernel_rfl) ?_ ?_
                  · rintro L A W ⟨v, rfl, hR⟩ hi hw K hK
                    go_simp
                    refine hK.out _ _ ?_
                    exact ⟨(fun jz => if jz = 37 then .int .i64 (p : Int) else v jz), rfl, ⟨hR.st, hR.w3.o, hR.w4.o, hR.w5.o, hR.w6.o, hR.w7.o, hR.w8.o, hR.w9.o, hR.w10.o, hR.w11.o, hR.w12.o, hR.w13.o, hR.w14.o, hR.w15.o, hR.w16.o, hR.w17.o, hR.w18.o, hR.w19.o, hR.w20.o, hR.w21.o, hR.w22.o, hR.w23.o, hR.w24.o, hR.w25.o, hR.w26.o, (fun _ => rfl), hR.f1.k, hR.f2.k, hR.f3.k, hR.f4.k, hR.f5.k, hR.f6.k, hR.f7.k, hR.f8.k, hR.f9.k, hR.f10.k, hR.f11.k, hR.f12.k, hR.f13.k, hR.f14.k, hR.f15.k, hR.f16.k, hR.f17.k, hR.f18.k, hR.f19.k, hR.f20.k, hR.f21.k, hR.f22.k, hR.f23.k, hR.f24.k, hR.f25.k, hR.f26.k⟩⟩
                  refine EachOf.cons [] rfl (by kernel_rfl) ?_ ?_
                  · rintro L A W ⟨v, rfl, hR⟩ hi hw K hK
                    go_simp
                    refine hK.out _ _ ?_
                    exact ⟨(fun jz => if jz = 38 then .int .i64 (left : Int) else v jz), rfl, ⟨hR.st, hR.w3.o, hR.w4.o, hR.w5.o, hR.w6.o, hR.w7.o, hR.w8.o, hR.w9.o, hR.w10.o, hR.w11.o, hR.w12.o, hR.w13.o, hR.w14.o, hR.w15.o, hR.w16.o, hR.w17.o, hR.w18.o, hR.w19.o, hR.w20.o, hR.w21.o, hR.w22.o, hR.w23.o, hR.w24.o, hR.w25.o, hR.w26.o, hR.f0.k, (fun _ => rfl), hR.f2.k, hR.f3.k, hR.f4.k, hR.f5.k, hR.f6.k, hR.f7.k, hR.f8.k, hR.f9.k, hR.f10.k, hR.f11.k, hR.f12.k, hR.f13.k, hR.f14.k, hR.f15.k, hR.f16.k, hR.f17.k, hR.f18.k, hR.f19.k, hR.f20.k, hR.f21.k, hR.f22.k, hR.f23.k, hR.f24.k, hR.f25.k, hR.f26.k⟩⟩
                  refine EachOf.cons [] rfl (by kernel_rfl) ?_ ?_
                  · rintro L A W ⟨v, rfl, hR⟩ hi hw K hK
                    go_simp
                    refine hK.out _ _ ?_
                    exact ⟨(fun jz => if jz = 39 then .int .i64 (left : Int) else v jz), rfl, ⟨hR.st, hR.w3.o, hR.w4.o, hR.w5.o, hR.w6.o, hR.w7.o, hR.w8.o, hR.w9.o, hR.w10.o, hR.w11.o, hR.w12.o, hR.w13.o, hR.w14.o, hR.w15.o, hR.w16.o, hR.w17.o, hR.w18.o, hR.w19.o, hR.w20.o, hR.w21.o, hR.w22.o, hR.w23.o, hR.w24.o, hR.w25.o, hR.w26.o, hR.f0.k, hR.f1.k, (fun _ => rfl), hR.f3.k, hR.f4.k, hR.f5.k, hR.f6.k, hR.f7.k, hR.f8.k, hR.f9.k, hR.f10.k, hR.f11.k, hR.f12.k, hR.f13.k, hR.f14.k, hR.f15.k, hR.f16.k, hR.f17.k, hR.f18.k, hR.f19.k, hR.f20.k, hR.f21.k, hR.f22.k, hR.f23.k, hR.f24.k, hR.f25.k, hR.f26.k⟩⟩
                  refine EachOf.cons [2] rfl (by kernel_rfl) ?_ ?_
                  · rintro L A W ⟨v, rfl, hR⟩ hi hw K hK
                    have e2 := hR.f2 (hw 2 (by simp))
                    simp only [e2]
                    clear e2
                    go_simp
                    refine hK.out _ _ ?_
                    exact ⟨(fun jz => if jz = 39 then .int .i64 (left : Int) else if jz = 40 then .int .i64 (-(left : Int)) else v jz), rfl, ⟨hR.st, (fun _ j hj => upd_on (hw j hj)), hR.w4.o, hR.w5.o, hR.w6.o, hR.w7.o, hR.w8.o, hR.w9.o, hR.w10.o, hR.w11.o, hR.w12.o, hR.w13.o, hR.w14.o, hR.w15.o, hR.w16.o, hR.w17.o, hR.w18.o, hR.w19.o, hR.w20.o, hR.w21.o, hR.w22.o, hR.w23.o, hR.w24.o, hR.w25.o, hR.w26.o, hR.f0.k, hR.f1.k, (fun _ => rfl), (fun _ => rfl), hR.f4.k, hR.f5.k, hR.f6.k, hR.f7.k, hR.f8.k, hR.f9.k, hR.f10.k, hR.f11.k, hR.f12.k, hR.f13.k, hR.f14.k, hR.f15.k, hR.f16.k, hR.f17.k, hR.f18.k, hR.f19.k, hR.f20.k, hR.f21.k, hR.f22.k, hR.f23.k, hR.f24.k, hR.f25.k, hR.f26.k⟩⟩
                  refine EachOf.cons [1, 3] rfl (by kernel_rfl) ?_ ?_
                  · rintro L A W ⟨v, rfl, hR⟩ hi hw K hK
                    have e1 := hR.f1 (hw 1 (by simp))
                    have e3 := hR.f3 (hw 3 (by simp))
                    simp only [e1, e3]
                    clear e1 e3
                    go_simp
                    refine hK.out _ _ ?_
                    exact ⟨(fun jz => if jz = 38 then .int .i64 (left : Int) else if jz = 40 then .int .i64 (-(left : Int)) else if jz = 41 then .int .i64 (lw : Int) else v jz), rfl, ⟨hR.st, hR.w3.o, (fun _ j hj => upd_on (hw j hj)), hR.w5.o, hR.w6.o, hR.w7.o, hR.w8.o, hR.w9.o, hR.w10.o, hR.w11.o, hR.w12.o, hR.w13.o, hR.w14.o, hR.w15.o, hR.w16.o, hR.w17.o, hR.w18.o, hR.w19.o, hR.w20.o, hR.w21.o, hR.w22.o, hR.w23.o, hR.w24.o, hR.w25.o, hR.w26.o, hR.f0.k, (fun _ => rfl), hR.f2.k, (fun _ => rfl), (fun _ => rfl), hR.f5.k, hR.f6.k, hR.f7.k, hR.f8.k, hR.f9.k, hR.f10.k, hR.f11.k, hR.f12.k, hR.f13.k, hR.f14.k, hR.f15.k, hR.f16.k, hR.f17.k, hR.f18.k, hR.f19.k, hR.f20.k, hR.f21.k, hR.f22.k, hR.f23.k, hR.f24.k, hR.f25.k, hR.f26.k⟩⟩
                  refine EachOf.cons [0, 4] rfl (by kernel_rfl) ?_ ?_
                  · rintro L A W ⟨v, rfl, hR⟩ hi hw K hK
                    have e0 := hR.f0 (hw 0 (by simp))
                    have e4 := hR.f4 (hw 4 (by simp))
                    simp only [e0, e4]
                    clear e0 e4
                    go_simp
                    refine hK.out _ _ ?_
                    exact ⟨(fun jz => if jz = 37 then .int .i64 (p : Int) else if jz = 41 then .int .i64 (lw : Int) else if jz = 42 then .int .i64 (u : Int) else v jz), rfl, ⟨hR.st, hR.w3.o, hR.w4.o, (fun _ j hj => upd_on (hw j hj)), hR.w6.o, hR.w7.o, hR.w8.o, hR.w9.o, hR.w10.o, hR.w11.o, hR.w12.o, hR.w13.o, hR.w14.o, hR.w15.o, hR.w16.o, hR.w17.o, hR.w18.o, hR.w19.o, hR.w20.o, hR.w21.o, hR.w22.o, hR.w23.o, hR.w24.o, hR.w25.o, hR.w26.o, (fun _ => rfl), hR.f1.k, hR.f2.k, hR.f3.k, (fun _ => rfl), (fun _ => rfl), hR.f6.k, hR.f7.k, hR.f8.k, hR.f9.k, hR.f10.k, hR.f11.k, hR.f12.k, hR.f13.k, hR.f14.k, hR.f15.k, hR.f16.k, hR.f17.k, hR.f18.k, hR.f19.k, hR.f20.k, hR.f21.k, hR.f22.k, hR.f23.k, hR.f24.k, hR.f25.k, hR.f26.k⟩⟩
                  refine EachOf.cons [5] rfl (by kernel_rfl) ?_ ?_
                  · rintro L A W ⟨v, rfl, hR⟩ hi hw K hK
                    have e5 := hR.f5 (hw 5 (by simp))
                    simp only [e5]
                    clear e5
                    go_simp
                    refine hK.out _ _ ?_
                    exact ⟨(fun jz => if jz = 42 then .int .i64 (u : Int) else if jz = 43 then .bool false else v jz), rfl, ⟨hR.st, hR.w3.o, hR.w4.o, hR.w5.o, (fun _ j hj => upd_on (hw j hj)), hR.w7.o, hR.w8.o, hR.w9.o, hR.w10.o, hR.w11.o, hR.w12.o, hR.w13.o, hR.w14.o, hR.w15.o, hR.w16.o, hR.w17.o, hR.w18.o, hR.w19.o, hR.w20.o, hR.w21.o, hR.w22.o, hR.w23.o, hR.w24.o, hR.w25.o, hR.w26.o, hR.f0.k, hR.f1.k, hR.f2.k, hR.f3.k, hR.f4.k, (fun _ => rfl), (fun _ => rfl), hR.f7.k, hR.f8.k, hR.f9.k, hR.f10.k, hR.f11.k, hR.f12.k, hR.f13.k, hR.f14.k, hR.f15.k, hR.f16.k, hR.f17.k, hR.f18.k, hR.f19.k, hR.f20.k, hR.f21.k, hR.f22.k, hR.f23.k, hR.f24.k, hR.f25.k, hR.f26.k⟩⟩
                  refine EachOf.cons [6] rfl (by kernel_rfl) ?_ ?_
                  · rintro L A W ⟨v, rfl, hR⟩ hi hw K hK
                    have e6 := hR.f6 (hw 6 (by simp))
                    simp only [e6]
                    clear e6
                    go_simp
                    refine hK.out _ _ ?_
                    exact ⟨(fun jz => if jz = 43 then .bool false else if jz = 44 then .bool false else v jz), rfl, ⟨hR.st, hR.w3.o, hR.w4.o, hR.w5.o, hR.w6.o, (fun _ j hj => upd_on (hw j hj)), hR.w8.o, hR.w9.o, hR.w10.o, hR.w11.o, hR.w12.o, hR.w13.o, hR.w14.o, hR.w15.o, hR.w16.o, hR.w17.o, hR.w18.o, hR.w19.o, hR.w20.o, hR.w21.o, hR.w22.o, hR.w23.o, hR.w24.o, hR.w25.o, hR.w26.o, hR.f0.k, hR.f1.k, hR.f2.k, hR.f3.k, hR.f4.k, hR.f5.k, (fun _ => rfl), (fun _ => rfl), hR.f8.k, hR.f9.k, hR.f10.k, hR.f11.k, hR.f12.k, hR.f13.k, hR.f14.k, hR.f15.k, hR.f16.k, hR.f17.k, hR.f18.k, hR.f19.k, hR.f20.k, hR.f21.k, hR.f22.k, hR.f23.k, hR.f24.k, hR.f25.k, hR.f26.k⟩⟩
                  refine EachOf.cons [7] rfl (by kernel_rfl) ?_ ?_
                  · rintro L A W ⟨v, rfl, hR⟩ hi hw K hK
                    have e7 := hR.f7 (hw 7 (by simp))
                    simp only [e7]
                    clear e7
                    go_simp
                    refine hK.out _ _ ?_
                    exact ⟨(fun jz => if jz = 44 then .bool false else if jz = 45 then .slice ra n c else v jz), rfl, ⟨hR.st, hR.w3.o, hR.w4.o, hR.w5.o, hR.w6.o, hR.w7.o, (fun _ j hj => upd_on (hw j hj)), hR.w9.o, hR.w10.o, hR.w11.o, hR.w12.o, hR.w13.o, hR.w14.o, hR.w15.o, hR.w16.o, hR.w17.o, hR.w18.o, hR.w19.o, hR.w20.o, hR.w21.o, hR.w22.o, hR.w23.o, hR.w24.o, hR.w25.o, hR.w26.o, hR.f0.k, hR.f1.k, hR.f2.k, hR.f3.k, hR.f4.k, hR.f5.k, hR.f6.k, (fun _ => rfl), (fun _ => rfl), hR.f9.k, hR.f10.k, hR.f11.k, hR.f12.k, hR.f13.k, hR.f14.k, hR.f15.k, hR.f16.k, hR.f17.k, hR.f18.k, hR.f19.k, hR.f20.k, hR.f21.k, hR.f22.k, hR.f23.k, hR.f24.k, hR.f25.k, hR.f26.k⟩⟩
                  refine EachOf.cons [7] rfl (by kernel_rfl) ?_ ?_
                  · rintro L A W ⟨v, rfl, hR⟩ hi hw K hK
                    have e7 := hR.f7 (hw 7 (by simp))
                    simp only [e7]
                    clear e7
                    go_simp
                    refine hK.out _ _ ?_
                    exact ⟨(fun jz => if jz = 44 then .bool false else if jz = 46 then .int .i64 (p : Int) else v jz), rfl, ⟨hR.st, hR.w3.o, hR.w4.o, hR.w5.o, hR.w6.o, hR.w7.o, hR.w8.o, (fun _ j hj => upd_on (hw j hj)), hR.w10.o, hR.w11.o, hR.w12.o, hR.w13.o, hR.w14.o, hR.w15.o, hR.w16.o, hR.w17.o, hR.w18.o, hR.w19.o, hR.w20.o, hR.w21.o, hR.w22.o, hR.w23.o, hR.w24.o, hR.w25.o, hR.w26.o, hR.f0.k, hR.f1.k, hR.f2.k, hR.f3.k, hR.f4.k, hR.f5.k, hR.f6.k, (fun _ => rfl), hR.f8.k, (fun _ => rfl), hR.f10.k, hR.f11.k, hR.f12.k, hR.f13.k, hR.f14.k, hR.f15.k, hR.f16.k, hR.f17.k, hR.f18.k, hR.f19.k, hR.f20.k, hR.f21.k, hR.f22.k, hR.f23.k, hR.f24.k, hR.f25.k, hR.f26.k⟩⟩
                  refine EachOf.cons [7, 8, 9] rfl (by kernel_rfl) ?_ ?_
                  · rintro L A W ⟨v, rfl, hR⟩ hi hw K hK
                    have e8 := hR.f8 (hw 8 (by simp))
                    have e9 := hR.f9 (hw 9 (by simp))
                    have e7 := hR.f7 (hw 7 (by simp))
                    simp only [e8, e9, e7]
                    clear e8 e9 e7
                    go_simp
                    go_at_call 29
                    (with_reducible refine ((CSp _ (below_on HB2.out hR.st)).out).mono ?_)
                    rintro e w2 ⟨rfl, rfl⟩
                    go_simp
                    refine hK.out _ _ ?_
                    exact ⟨(fun jz => if jz = 45 then .slice ra n c else if jz = 46 then .int .i64 (p : Int) else if jz = 44 then .bool false else if jz = 47 then .int .i64 0 else v jz), rfl, ⟨hR.st, hR.w3.o, hR.w4.o, hR.w5.o, hR.w6.o, hR.w7.o, hR.w8.o, hR.w9.o, (fun _ j hj => upd_on (hw j hj)), hR.w11.o, hR.w12.o, hR.w13.o, hR.w14.o, hR.w15.o, hR.w16.o, hR.w17.o, hR.w18.o, hR.w19.o, hR.w20.o, hR.w21.o, hR.w22.o, hR.w23.o, hR.w24.o, hR.w25.o, hR.w26.o, hR.f0.k, hR.f1.k, hR.f2.k, hR.f3.k, hR.f4.k, hR.f5.k, hR.f6.k, (fun _ => rfl), (fun _ => rfl), (fun _ => rfl), (fun _ => rfl), hR.f11.k, hR.f12.k, hR.f13.k, hR.f14.k, hR.f15.k, hR.f16.k, hR.f17.k, hR.f18.k, hR.f19.k, hR.f20.k, hR.f21.k, hR.f22.k, hR.f23.k, hR.f24.k, hR.f25.k, hR.f26.k⟩⟩
                  refine EachOf.cons [7, 10] rfl (by kernel_rfl) ?_ ?_
                  · rintro L A W ⟨v, rfl, hR⟩ hi hw K hK
                    have e10 := hR.f10 (hw 10 (by simp))
                    have e7 := hR.f7 (hw 7 (by simp))
                    simp only [e10, e7]
                    clear e10 e7
                    go_simp
                    refine hK.out _ _ ?_
                    exact ⟨(fun jz => if jz = 47 then .int .i64 0 else if jz = 44 then .bool false else if jz = 48 then .bool false else v jz), rfl, ⟨hR.st, hR.w3.o, hR.w4.o, hR.w5.o, hR.w6.o, hR.w7.o, hR.w8.o, hR.w9.o, hR.w10.o, (fun _ j hj => upd_on (hw j hj)), hR.w12.o, hR.w13.o, hR.w14.o, hR.w15.o, hR.w16.o, hR.w17.o, hR.w18.o, hR.w19.o, hR.w20.o, hR.w21.o, hR.w22.o, hR.w23.o, hR.w24.o, hR.w25.o, hR.w26.o, hR.f0.k, hR.f1.k, hR.f2.k, hR.f3.k, hR.f4.k, hR.f5.k, hR.f6.k, (fun _ => rfl), hR.f8.k, hR.f9.k, (fun _ => rfl), (fun _ => rfl), hR.f12.k, hR.f13.k, hR.f14.k, hR.f15.k, hR.f16.k, hR.f17.k, hR.f18.k, hR.f19.k, hR.f20.k, hR.f21.k, hR.f22.k, hR.f23.k, hR.f24.k, hR.f25.k, hR.f26.k⟩⟩
                  refine EachOf.cons [7, 11] rfl (by kernel_rfl) ?_ ?_
                  · rintro L A W ⟨v, rfl, hR⟩ hi hw K hK
                    have e7 := hR.f7 (hw 7 (by simp))
                    have e11 := hR.f11 (hw 11 (by simp))
                    simp only [e7, e11]
                    clear e7 e11
                    go_simp
                    refine hK.out _ _ ?_
                    exact ⟨(fun jz => if jz = 44 then .bool false else if jz = 48 then .bool false else if jz = 49 then .bool false else v jz), rfl, ⟨hR.st, hR.w3.o, hR.w4.o, hR.w5.o, hR.w6.o, hR.w7.o, hR.w8.o, hR.w9.o, hR.w10.o, hR.w11.o, (fun _ j hj => upd_on (hw j hj)), hR.w13.o, hR.w14.o, hR.w15.o, hR.w16.o, hR.w17.o, hR.w18.o, hR.w19.o, hR.w20.o, hR.w21.o, hR.w22.o, hR.w23.o, hR.w24.o, hR.w25.o, hR.w26.o, hR.f0.k, hR.f1.k, hR.f2.k, hR.f3.k, hR.f4.k, hR.f5.k, hR.f6.k, (fun _ => rfl), hR.f8.k, hR.f9.k, hR.f10.k, (fun _ => rfl), (fun _ => rfl), hR.f13.k, hR.f14.k, hR.f15.k, hR.f16.k, hR.f17.k, hR.f18.k, hR.f19.k, hR.f20.k, hR.f21.k, hR.f22.k, hR.f23.k, hR.f24.k, hR.f25.k, hR.f26.k⟩⟩
                  refine EachOf.cons [12] rfl (by kernel_rfl) ?_ ?_
                  · rintro L A W ⟨v, rfl, hR⟩ hi hw K hK
                    have e12 := hR.f12 (hw 12 (by simp))
                    simp only [e12]
                    clear e12
                    go_simp
                    refine hK.out _ _ ?_
                    exact ⟨(fun jz => if jz = 49 then .bool false else if jz = 50 then .bool false else v jz), rfl, ⟨hR.st, hR.w3.o, hR.w4.o, hR.w5.o, hR.w6.o, hR.w7.o, hR.w8.o, hR.w9.o, hR.w10.o, hR.w11.o, hR.w12.o, (fun _ j hj => upd_on (hw j hj)), hR.w14.o, hR.w15.o, hR.w16.o, hR.w17.o, hR.w18.o, hR.w19.o, hR.w20.o, hR.w21.o, hR.w22.o, hR.w23.o, hR.w24.o, hR.w25.o, hR.w26.o, hR.f0.k, hR.f1.k, hR.f2.k, hR.f3.k, hR.f4.k, hR.f5.k, hR.f6.k, hR.f7.k, hR.f8.k, hR.f9.k, hR.f10.k, hR.f11.k, (fun _ => rfl), (fun _ => rfl), hR.f14.k, hR.f15.k, hR.f16.k, hR.f17.k, hR.f18.k, hR.f19.k, hR.f20.k, hR.f21.k, hR.f22.k, hR.f23.k, hR.f24.k, hR.f25.k, hR.f26.k⟩⟩
                  refine EachOf.cons [13] rfl (by kernel_rfl) ?_ ?_
                  · rintro L A W ⟨v, rfl, hR⟩ hi hw K hK
                    have e13 := hR.f13 (hw 13 (by simp))
                    simp only [e13]
                    clear e13
                    go_simp
                    refine hK.out _ _ ?_
                    exact ⟨(fun jz => if jz = 50 then .bool false else if jz = 51 then .slice (some ⟨g, 0, none⟩) (M) (cp) else v jz), rfl, ⟨hR.st, hR.w3.o, hR.w4.o, hR.w5.o, hR.w6.o, hR.w7.o, hR.w8.o, hR.w9.o, hR.w10.o, hR.w11.o, hR.w12.o, hR.w13.o, (fun _ j hj => upd_on (hw j hj)), hR.w15.o, hR.w16.o, hR.w17.o, hR.w18.o, hR.w19.o, hR.w20.o, hR.w21.o, hR.w22.o, hR.w23.o, hR.w24.o, hR.w25.o, hR.w26.o, hR.f0.k, hR.f1.k, hR.f2.k, hR.f3.k, hR.f4.k, hR.f5.k, hR.f6.k, hR.f7.k, hR.f8.k, hR.f9.k, hR.f10.k, hR.f11.k, hR.f12.k, (fun _ => rfl), (fun _ => rfl), hR.f15.k, hR.f16.k, hR.f17.k, hR.f18.k, hR.f19.k, hR.f20.k, hR.f21.k, hR.f22.k, hR.f23.k, hR.f24.k, hR.f25.k, hR.f26.k⟩⟩
                  refine EachOf.cons [13] rfl (by kernel_rfl) ?_ ?_
                  · rintro L A W ⟨v, rfl, hR⟩ hi hw K hK
                    have e13 := hR.f13 (hw 13 (by simp))
                    simp only [e13]
                    clear e13
                    go_simp
                    refine hK.out _ _ ?_
                    exact ⟨(fun jz => if jz = 50 then .bool false else if jz = 52 then .int .i64 (left : Int) else v jz), rfl, ⟨hR.st, hR.w3.o, hR.w4.o, hR.w5.o, hR.w6.o, hR.w7.o, hR.w8.o, hR.w9.o, hR.w10.o, hR.w11.o, hR.w12.o, hR.w13.o, hR.w14.o, (fun _ j hj => upd_on (hw j hj)), hR.w16.o, hR.w17.o, hR.w18.o, hR.w19.o, hR.w20.o, hR.w21.o, hR.w22.o, hR.w23.o, hR.w24.o, hR.w25.o, hR.w26.o, hR.f0.k, hR.f1.k, hR.f2.k, hR.f3.k, hR.f4.k, hR.f5.k, hR.f6.k, hR.f7.k, hR.f8.k, hR.f9.k, hR.f10.k, hR.f11.k, hR.f12.k, (fun _ => rfl), hR.f14.k, (fun _ => rfl), hR.f16.k, hR.f17.k, hR.f18.k, hR.f19.k, hR.f20.k, hR.f21.k, hR.f22.k, hR.f23.k, hR.f24.k, hR.f25.k, hR.f26.k⟩⟩
                  refine EachOf.cons [13] rfl (by kernel_rfl) ?_ ?_
                  · rintro L A W ⟨v, rfl, hR⟩ hi hw K hK
                    have e13 := hR.f13 (hw 13 (by simp))
                    simp only [e13]
                    clear e13
                    go_simp
                    refine hK.out _ _ ?_
                    exact ⟨(fun jz => if jz = 50 then .bool false else if jz = 53 then .int .i64 (p : Int) else v jz), rfl, ⟨hR.st, hR.w3.o, hR.w4.o, hR.w5.o, hR.w6.o, hR.w7.o, hR.w8.o, hR.w9.o, hR.w10.o, hR.w11.o, hR.w12.o, hR.w13.o, hR.w14.o, hR.w15.o, (fun _ j hj => upd_on (hw j hj)), hR.w17.o, hR.w18.o, hR.w19.o, hR.w20.o, hR.w21.o, hR.w22.o, hR.w23.o, hR.w24.o, hR.w25.o, hR.w26.o, hR.f0.k, hR.f1.k, hR.f2.k, hR.f3.k, hR.f4.k, hR.f5.k, hR.f6.k, hR.f7.k, hR.f8.k, hR.f9.k, hR.f10.k, hR.f11.k, hR.f12.k, (fun _ => rfl), hR.f14.k, hR.f15.k, (fun _ => rfl), hR.f17.k, hR.f18.k, hR.f19.k, hR.f20.k, hR.f21.k, hR.f22.k, hR.f23.k, hR.f24.k, hR.f25.k, hR.f26.k⟩⟩
                  refine EachOf.cons [13, 15, 16] rfl (by kernel_rfl) ?_ ?_
                  · rintro L A W ⟨v, rfl, hR⟩ hi hw K hK
                    have e15 := hR.f15 (hw 15 (by simp))
                    have e16 := hR.f16 (hw 16 (by simp))
                    have e13 := hR.f13 (hw 13 (by simp))
                    simp only [e15, e16, e13]
                    clear e15 e16 e13
                    go_simp
                    refine hK.out _ _ ?_
                    exact ⟨(fun jz => if jz = 52 then .int .i64 (left : Int) else if jz = 53 then .int .i64 (p : Int) else if jz = 50 then .bool false else if jz = 54 then .int .i64 (d : Int) else v jz), rfl, ⟨hR.st, hR.w3.o, hR.w4.o, hR.w5.o, hR.w6.o, hR.w7.o, hR.w8.o, hR.w9.o, hR.w10.o, hR.w11.o, hR.w12.o, hR.w13.o, hR.w14.o, hR.w15.o, hR.w16.o, (fun _ j hj => upd_on (hw j hj)), hR.w18.o, hR.w19.o, hR.w20.o, hR.w21.o, hR.w22.o, hR.w23.o, hR.w24.o, hR.w25.o, hR.w26.o, hR.f0.k, hR.f1.k, hR.f2.k, hR.f3.k, hR.f4.k, hR.f5.k, hR.f6.k, hR.f7.k, hR.f8.k, hR.f9.k, hR.f10.k, hR.f11.k, hR.f12.k, (fun _ => rfl), hR.f14.k, (fun _ => rfl), (fun _ => rfl), (fun _ => rfl), hR.f18.k, hR.f19.k, hR.f20.k, hR.f21.k, hR.f22.k, hR.f23.k, hR.f24.k, hR.f25.k, hR.f26.k⟩⟩
                  refine EachOf.cons [13, 14, 17] rfl (by kernel_rfl) ?_ ?_
                  · rintro L A W ⟨v, rfl, hR⟩ hi hw K hK
                    have e14 := hR.f14 (hw 14 (by simp))
                    have e17 := hR.f17 (hw 17 (by simp))
                    have e13 := hR.f13 (hw 13 (by simp))
                    simp only [e14, e17, e13]
                    clear e14 e17 e13
                    go_simp
                    refine hK.out _ _ ?_
                    exact ⟨(fun jz => if jz = 51 then .slice (some ⟨g, 0, none⟩) (M) (cp) else if jz = 54 then .int .i64 (d : Int) else if jz = 50 then .bool false else if jz = 55 then .pointer (some ⟨g, d, none⟩) else v jz), rfl, ⟨hR.st, hR.w3.o, hR.w4.o, hR.w5.o, hR.w6.o, hR.w7.o, hR.w8.o, hR.w9.o, hR.w10.o, hR.w11.o, hR.w12.o, hR.w13.o, hR.w14.o, hR.w15.o, hR.w16.o, hR.w17.o, (fun _ j hj => upd_on (hw j hj)), hR.w19.o, hR.w20.o, hR.w21.o, hR.w22.o, hR.w23.o, hR.w24.o, hR.w25.o, hR.w26.o, hR.f0.k, hR.f1.k, hR.f2.k, hR.f3.k, hR.f4.k, hR.f5.k, hR.f6.k, hR.f7.k, hR.f8.k, hR.f9.k, hR.f10.k, hR.f11.k, hR.f12.k, (fun _ => rfl), (fun _ => rfl), hR.f15.k, hR.f16.k, (fun _ => rfl), (fun _ => rfl), hR.f19.k, hR.f20.k, hR.f21.k, hR.f22.k, hR.f23.k, hR.f24.k, hR.f25.k, hR.f26.k⟩⟩
                  refine EachOf.cons [13, 18] rfl (by kernel_rfl) ?_ ?_
                  · rintro L A W ⟨v, rfl, hR⟩ hi hw K hK
                    have e18 := hR.f18 (hw 18 (by simp))
                    have e13 := hR.f13 (hw 13 (by simp))
                    simp only [e18, e13]
                    clear e18 e13
                    have q0 := (hR.st.cell (p := ⟨g, d, none⟩) LD.out.2).trans LD.out.1
                    go_simp
                    refine hK.out _ _ ?_
                    exact ⟨(fun jz => if jz = 55 then .pointer (some ⟨g, d, none⟩) else if jz = 50 then .bool false else if jz = 56 then .int .i64 z else v jz), rfl, ⟨hR.st, hR.w3.o, hR.w4.o, hR.w5.o, hR.w6.o, hR.w7.o, hR.w8.o, hR.w9.o, hR.w10.o, hR.w11.o, hR.w12.o, hR.w13.o, hR.w14.o, hR.w15.o, hR.w16.o, hR.w17.o, hR.w18.o, (fun _ j hj => upd_on (hw j hj)), hR.w20.o, hR.w21.o, hR.w22.o, hR.w23.o, hR.w24.o, hR.w25.o, hR.w26.o, hR.f0.k, hR.f1.k, hR.f2.k, hR.f3.k, hR.f4.k, hR.f5.k, hR.f6.k, hR.f7.k, hR.f8.k, hR.f9.k, hR.f10.k, hR.f11.k, hR.f12.k, (fun _ => rfl), hR.f14.k, hR.f15.k, hR.f16.k, hR.f17.k, (fun _ => rfl), (fun _ => rfl), hR.f20.k, hR.f21.k, hR.f22.k, hR.f23.k, hR.f24.k, hR.f25.k, hR.f26.k⟩⟩
                  refine EachOf.cons [13] rfl (by kernel_rfl) ?_ ?_
                  · rintro L A W ⟨v, rfl, hR⟩ hi hw K hK
                    have e13 := hR.f13 (hw 13 (by simp))
                    simp only [e13]
                    clear e13
                    go_simp
                    refine hK.out _ _ ?_
                    exact ⟨(fun jz => if jz = 50 then .bool false else if jz = 57 then .slice (some ⟨g, 0, none⟩) (M) (cp) else v jz), rfl, ⟨hR.st, hR.w3.o, hR.w4.o, hR.w5.o, hR.w6.o, hR.w7.o, hR.w8.o, hR.w9.o, hR.w10.o, hR.w11.o, hR.w12.o, hR.w13.o, hR.w14.o, hR.w15.o, hR.w16.o, hR.w17.o, hR.w18.o, hR.w19.o, (fun _ j hj => upd_on (hw j hj)), hR.w21.o, hR.w22.o, hR.w23.o, hR.w24.o, hR.w25.o, hR.w26.o, hR.f0.k, hR.f1.k, hR.f2.k, hR.f3.k, hR.f4.k, hR.f5.k, hR.f6.k, hR.f7.k, hR.f8.k, hR.f9.k, hR.f10.k, hR.f11.k, hR.f12.k, (fun _ => rfl), hR.f14.k, hR.f15.k, hR.f16.k, hR.f17.k, hR.f18.k, hR.f19.k, (fun _ => rfl), hR.f21.k, hR.f22.k, hR.f23.k, hR.f24.k, hR.f25.k, hR.f26.k⟩⟩
                  refine EachOf.cons [13] rfl (by kernel_rfl) ?_ ?_
                  · rintro L A W ⟨v, rfl, hR⟩ hi hw K hK
                    have e13 := hR.f13 (hw 13 (by simp))
                    simp only [e13]
                    clear e13
                    go_simp
                    refine hK.out _ _ ?_
                    exact ⟨(fun jz => if jz = 50 then .bool false else if jz = 58 then .int .i64 (left : Int) else v jz), rfl, ⟨hR.st, hR.w3.o, hR.w4.o, hR.w5.o, hR.w6.o, hR.w7.o, hR.w8.o, hR.w9.o, hR.w10.o, hR.w11.o, hR.w12.o, hR.w13.o, hR.w14.o, hR.w15.o, hR.w16.o, hR.w17.o, hR.w18.o, hR.w19.o, hR.w20.o, (fun _ j hj => upd_on (hw j hj)), hR.w22.o, hR.w23.o, hR.w24.o, hR.w25.o, hR.w26.o, hR.f0.k, hR.f1.k, hR.f2.k, hR.f3.k, hR.f4.k, hR.f5.k, hR.f6.k, hR.f7.k, hR.f8.k, hR.f9.k, hR.f10.k, hR.f11.k, hR.f12.k, (fun _ => rfl), hR.f14.k, hR.f15.k, hR.f16.k, hR.f17.k, hR.f18.k, hR.f19.k, hR.f20.k, (fun _ => rfl), hR.f22.k, hR.f23.k, hR.f24.k, hR.f25.k, hR.f26.k⟩⟩
                  refine EachOf.cons [13, 20, 21] rfl (by kernel_rfl) ?_ ?_
                  · rintro L A W ⟨v, rfl, hR⟩ hi hw K hK
                    have e20 := hR.f20 (hw 20 (by simp))
                    have e21 := hR.f21 (hw 21 (by simp))
                    have e13 := hR.f13 (hw 13 (by simp))
                    simp only [e20, e21, e13]
                    clear e20 e21 e13
                    go_simp
                    refine hK.out _ _ ?_
                    exact ⟨(fun jz => if jz = 57 then .slice (some ⟨g, 0, none⟩) (M) (cp) else if jz = 58 then .int .i64 (left : Int) else if jz = 50 then .bool false else if jz = 59 then .pointer (some ⟨g, left, none⟩) else v jz), rfl, ⟨hR.st, hR.w3.o, hR.w4.o, hR.w5.o, hR.w6.o, hR.w7.o, hR.w8.o, hR.w9.o, hR.w10.o, hR.w11.o, hR.w12.o, hR.w13.o, hR.w14.o, hR.w15.o, hR.w16.o, hR.w17.o, hR.w18.o, hR.w19.o, hR.w20.o, hR.w21.o, (fun _ j hj => upd_on (hw j hj)), hR.w23.o, hR.w24.o, hR.w25.o, hR.w26.o, hR.f0.k, hR.f1.k, hR.f2.k, hR.f3.k, hR.f4.k, hR.f5.k, hR.f6.k, hR.f7.k, hR.f8.k, hR.f9.k, hR.f10.k, hR.f11.k, hR.f12.k, (fun _ => rfl), hR.f14.k, hR.f15.k, hR.f16.k, hR.f17.k, hR.f18.k, hR.f19.k, (fun _ => rfl), (fun _ => rfl), (fun _ => rfl), hR.f23.k, hR.f24.k, hR.f25.k, hR.f26.k⟩⟩
                  refine EachOf.cons [13, 22] rfl (by kernel_rfl) ?_ ?_
                  · rintro L A W ⟨v, rfl, hR⟩ hi hw K hK
                    have e22 := hR.f22 (hw 22 (by simp))
                    have e13 := hR.f13 (hw 13 (by simp))
                    simp only [e22, e13]
                    clear e22 e13
                    have q0 := (hR.st.cell (p := ⟨g, left, none⟩) LL.out.2).trans LL.out.1
                    go_simp
                    refine hK.out _ _ ?_
                    exact ⟨(fun jz => if jz = 59 then .pointer (some ⟨g, left, none⟩) else if jz = 50 then .bool false else if jz = 60 then .int .i64 y else v jz), rfl, ⟨hR.st, hR.w3.o, hR.w4.o, hR.w5.o, hR.w6.o, hR.w7.o, hR.w8.o, hR.w9.o, hR.w10.o, hR.w11.o, hR.w12.o, hR.w13.o, hR.w14.o, hR.w15.o, hR.w16.o, hR.w17.o, hR.w18.o, hR.w19.o, hR.w20.o, hR.w21.o, hR.w22.o, (fun _ j hj => upd_on (hw j hj)), hR.w24.o, hR.w25.o, hR.w26.o, hR.f0.k, hR.f1.k, hR.f2.k, hR.f3.k, hR.f4.k, hR.f5.k, hR.f6.k, hR.f7.k, hR.f8.k, hR.f9.k, hR.f10.k, hR.f11.k, hR.f12.k, (fun _ => rfl), hR.f14.k, hR.f15.k, hR.f16.k, hR.f17.k, hR.f18.k, hR.f19.k, hR.f20.k, hR.f21.k, (fun _ => rfl), (fun _ => rfl), hR.f24.k, hR.f25.k, hR.f26.k⟩⟩
                  refine EachOf.cons [13, 23] rfl (by kernel_rfl) ?_ ?_
                  · rintro L A W ⟨v, rfl, hR⟩ hi hw K hK
                    have e23 := hR.f23 (hw 23 (by simp))
                    have e13 := hR.f13 (hw 13 (by simp))
                    simp only [e23, e13]
                    clear e23 e13
                    go_simp
                    refine hK.out _ _ ?_
                    exact ⟨(fun jz => if jz = 60 then .int .i64 y else if jz = 50 then .bool false else if jz = 61 then .int .i64 y1 else v jz), rfl, ⟨hR.st, hR.w3.o, hR.w4.o, hR.w5.o, hR.w6.o, hR.w7.o, hR.w8.o, hR.w9.o, hR.w10.o, hR.w11.o, hR.w12.o, hR.w13.o, hR.w14.o, hR.w15.o, hR.w16.o, hR.w17.o, hR.w18.o, hR.w19.o, hR.w20.o, hR.w21.o, hR.w22.o, hR.w23.o, (fun _ j hj => upd_on (hw j hj)), hR.w25.o, hR.w26.o, hR.f0.k, hR.f1.k, hR.f2.k, hR.f3.k, hR.f4.k, hR.f5.k, hR.f6.k, hR.f7.k, hR.f8.k, hR.f9.k, hR.f10.k, hR.f11.k, hR.f12.k, (fun _ => rfl), hR.f14.k, hR.f15.k, hR.f16.k, hR.f17.k, hR.f18.k, hR.f19.k, hR.f20.k, hR.f21.k, hR.f22.k, (fun _ => rfl), (fun _ => rfl), hR.f25.k, hR.f26.k⟩⟩
                  refine EachOf.cons [13, 19, 24] rfl (by kernel_rfl) ?_ ?_
                  · rintro L A W ⟨v, rfl, hR⟩ hi hw K hK
                    have e19 := hR.f19 (hw 19 (by simp))
                    have e24 := hR.f24 (hw 24 (by simp))
                    have e13 := hR.f13 (hw 13 (by simp))
                    simp only [e19, e24, e13]
                    clear e19 e24 e13
                    go_simp
                    refine hK.out _ _ ?_
                    exact ⟨(fun jz => if jz = 56 then .int .i64 z else if jz = 61 then .int .i64 y1 else if jz = 50 then .bool false else if jz = 62 then .bool true else v jz), rfl, ⟨hR.st, hR.w3.o, hR.w4.o, hR.w5.o, hR.w6.o, hR.w7.o, hR.w8.o, hR.w9.o, hR.w10.o, hR.w11.o, hR.w12.o, hR.w13.o, hR.w14.o, hR.w15.o, hR.w16.o, hR.w17.o, hR.w18.o, hR.w19.o, hR.w20.o, hR.w21.o, hR.w22.o, hR.w23.o, hR.w24.o, (fun _ j hj => upd_on (hw j hj)), hR.w26.o, hR.f0.k, hR.f1.k, hR.f2.k, hR.f3.k, hR.f4.k, hR.f5.k, hR.f6.k, hR.f7.k, hR.f8.k, hR.f9.k, hR.f10.k, hR.f11.k, hR.f12.k, (fun _ => rfl), hR.f14.k, hR.f15.k, hR.f16.k, hR.f17.k, hR.f18.k, (fun _ => rfl), hR.f20.k, hR.f21.k, hR.f22.k, hR.f23.k, (fun _ => rfl), (fun _ => rfl), hR.f26.k⟩⟩
                  refine EachOf.cons [13, 25] rfl (by kernel_rfl) ?_ ?_
                  · rintro L A W ⟨v, rfl, hR⟩ hi hw K hK
                    have e13 := hR.f13 (hw 13 (by simp))
                    have e25 := hR.f25 (hw 25 (by simp))
                    simp only [e13, e25]
                    clear e13 e25
                    go_simp
                    refine hK.out _ _ ?_
                    exact ⟨(fun jz => if jz = 50 then .bool false else if jz = 62 then .bool true else if jz = 63 then .bool true else v jz), rfl, ⟨hR.st, hR.w3.o, hR.w4.o, hR.w5.o, hR.w6.o, hR.w7.o, hR.w8.o, hR.w9.o, hR.w10.o, hR.w11.o, hR.w12.o, hR.w13.o, hR.w14.o, hR.w15.o, hR.w16.o, hR.w17.o, hR.w18.o, hR.w19.o, hR.w20.o, hR.w21.o, hR.w22.o, hR.w23.o, hR.w24.o, hR.w25.o, (fun _ j hj => upd_on (hw j hj)), hR.f0.k, hR.f1.k, hR.f2.k, hR.f3.k, hR.f4.k, hR.f5.k, hR.f6.k, hR.f7.k, hR.f8.k, hR.f9.k, hR.f10.k, hR.f11.k, hR.f12.k, (fun _ => rfl), hR.f14.k, hR.f15.k, hR.f16.k, hR.f17.k, hR.f18.k, hR.f19.k, hR.f20.k, hR.f21.k, hR.f22.k, hR.f23.k, hR.f24.k, (fun _ => rfl), (fun _ => rfl)⟩⟩
                  exact EachOf.nil
                · rintro L A W ⟨vv, rfl, hR⟩ hall
                  have hst := Lib.hid hR.st
                  have e26 := hR.f26 (hall 26 (by simp))
                  simp only [e26]
                  clear hR e26 hall
                  go_wp2_with fail
                  go_roundg (2 * v)
                  case measure => omega
                  case rel => exact ⟨v, b, rfl, rfl, rfl, by omega, hb, below_on HU.out hst.out, T2.out, hsub⟩
            · have q2b : (s != 0) = true := by simpa using hs0
              have T2 := Lib.hid (HSK.out (fun hc => hs0 (HQQ.out.2.1 (HQQ.out.1.1 hc).1).2.2))
              clear HSK HTK HSY hA HQQ hTp hs0
              generalize p &&& lw = u at *
              generalize hv : (p - 1) &&& left = v at *
              go_upto_region 15 with fail
              refine wp_region_each (fun L A W => ∃ (v : Nat → Value), A = ⟨#[_, _, _, _, _, _, _, _, _, _, _, _, _, _, _, _, _, _, _, _, _, _, _, _, _, _, _, _, _, _, _, _, _, _, _, _, _, v 37, v 38, v 39, v 40, v 41, v 42, v 43, v 44, v 45, v 46, v 47, v 48, v 49, v 50, v 51, v 52, v 53, v 54, v 55, v 56, v 57, v 58, v 59, v 60, v 61, v 62, v 63, _, _, _, _, _, _, _, _, _, _, _, _, _, _, _, _, _, _, _, _, _, _], []⟩ ∧ RpbR g M cp left p lw u 0 s 0 0 0 true (.slice ra n c) W2 L v W) (by kernel_rfl) (by kernel_rfl) ⟨fun jz => if jz = 37 then u37 else if jz = 38 then u38 else if jz = 39 then u39 else if jz = 40 then u40 else if jz = 41 then u41 else if jz = 42 then u42 else if jz = 43 then u43 else if jz = 44 then u44 else if jz = 45 then u45 else if jz = 46 then u46 else if jz = 47 then u47 else if jz = 48 then u48 else if jz = 49 then u49 else if jz = 50 then u50 else if jz = 51 then u51 else if jz = 52 then u52 else if jz = 53 then u53 else if jz = 54 then u54 else if jz = 55 then u55 else if jz = 56 then u56 else if jz = 57 then u57 else if jz = 58 then u58 else if jz = 59 then u59 else if jz = 60 then u60 else if jz = 61 then u61 else if jz = 62 then u62 else if jz = 63 then u63 else undef, rfl, ⟨Below.drew (Below.refl _ _), Had.none, Had.none, Had.none, Had.none, Had.none, Had.none, Had.none, Had.none, Had.none, Had.none, Had.none, Had.none, Had.none, Had.none, Had.none, Had.none, Had.none, Had.none, Had.none, Had.none, Had.none, Had.none, Had.none, Had.none, Had.none, Had.none, Had.none, Had.none, Had.none, Had.none, Had.none, Had.none, Had.none, Had.none, Had.none, Had.none, Had.none, Had.none, Had.none, Had.none, Had.none, Had.none, Had.none, Had.none, Had.none, Had.none, Had.none, Had.none, Had.none, Had.none, Had.none⟩⟩ (rs := [0, 1, 2, 3, 4, 5, 6, 7, 8, 9, 10, 11, 12, 13, 14, 15, 16, 17, 18, 19, 20, 21, 22, 23, 24, 25, 26]) (by kernel_rfl) ?_ ?_
              · refine EachOf.cons [] rfl (by kernel_rfl) ?_ ?_
                · rintro L A W ⟨v, rfl, hR⟩ hi hw K hK
                  go_simp
                  refine hK.out _ _ ?_
                  exact ⟨(fun jz => if jz = 37 then .int .i64 (p : Int) else v jz), rfl, ⟨hR.st, hR.w3.o, hR.w4.o, hR.w5.o, hR.w6.o, hR.w7.o, hR.w8.o, hR.w9.o, hR.w10.o, hR.w11.o, hR.w12.o, hR.w13.o, hR.w14.o, hR.w15.o, hR.w16.o, hR.w17.o, hR.w18.o, hR.w19.o, hR.w20.o, hR.w21.o, hR.w22.o, hR.w23.o, hR.w24.o, hR.w25.o, hR.w26.o, (fun _ => rfl), hR.f1.k, hR.f2.k, hR.f3.k, hR.f4.k, hR.f5.k, hR.f6.k, hR.f7.k, hR.f8.k, hR.f9.k, hR.f10.k, hR.f11.k, hR.f12.k, hR.f13.k, hR.f14.k, hR.f15.k, hR.f16.k, hR.f17.k, hR.f18.k, hR.f19.k, hR.f20.k, hR.f21.k, hR.f22.k, hR.f23.k, hR.f24.k, hR.f25.k, hR.f26.k⟩⟩
                refine EachOf.cons [] rfl (by kernel_rfl) ?_ ?_
                · rintro L A W ⟨v, rfl, hR⟩ hi hw K hK
                  go_simp
                  refine hK.out _ _ ?_
                  exact ⟨(fun jz => if jz = 38 then .int .i64 (left : Int) else v jz), rfl, ⟨hR.st, hR.w3.o, hR.w4.o, hR.w5.o, hR.w6.o, hR.w7.o, hR.w8.o, hR.w9.o, hR.w10.o, hR.w11.o, hR.w12.o, hR.w13.o, hR.w14.o, hR.w15.o, hR.w16.o, hR.w17.o, hR.w18.o, hR.w19.o, hR.w20.o, hR.w21.o, hR.w22.o, hR.w23.o, hR.w24.o, hR.w25.o, hR.w26.o, hR.f0.k, (fun _ => rfl), hR.f2.k, hR.f3.k, hR.f4.k, hR.f5.k, hR.f6.k, hR.f7.k, hR.f8.k, hR.f9.k, hR.f10.k, hR.f11.k, hR.f12.k, hR.f13.k, hR.f14.k, hR.f15.k, hR.f16.k, hR.f17.k, hR.f18.k, hR.f19.k, hR.f20.k, hR.f21.k, hR.f22.k, hR.f23.k, hR.f24.k, hR.f25.k, hR.f26.k⟩⟩
                refine EachOf.cons [] rfl (by kernel_rfl) ?_ ?_
                · rintro L A W ⟨v, rfl, hR⟩ hi hw K hK
                  go_simp
                  refine hK.out _ _ ?_
                  exact ⟨(fun jz => if jz = 39 then .int .i64 (left : Int) else v jz), rfl, ⟨hR.st, hR.w3.o, hR.w4.o, hR.w5.o, hR.w6.o, hR.w7.o, hR.w8.o, hR.w9.o, hR.w10.o, hR.w11.o, hR.w12.o, hR.w13.o, hR.w14.o, hR.w15.o, hR.w16.o, hR.w17.o, hR.w18.o, hR.w19.o, hR.w20.o, hR.w21.o, hR.w22.o, hR.w23.o, hR.w24.o, hR.w25.o, hR.w26.o, hR.f0.k, hR.f1.k, (fun _ => rfl), hR.f3.k, hR.f4.k, hR.f5.k, hR.f6.k, hR.f7.k, hR.f8.k, hR.f9.k, hR.f10.k, hR.f11.k, hR.f12.k, hR.f13.k, hR.f14.k, hR.f15.k, hR.f16.k, hR.f17.k, hR.f18.k, hR.f19.k, hR.f20.k, hR.f21.k, hR.f22.k, hR.f23.k, hR.f24.k, hR.f25.k, hR.f26.k⟩⟩
                refine EachOf.cons [2] rfl (by kernel_rfl) ?_ ?_
                · rintro L A W ⟨v, rfl, hR⟩ hi hw K hK
                  have e2 := hR.f2 (hw 2 (by simp))
                  simp only [e2]
                  clear e2
                  go_simp
                  refine hK.out _ _ ?_
                  exact ⟨(fun jz => if jz = 39 then .int .i64 (left : Int) else if jz = 40 then .int .i64 (-(left : Int)) else v jz), rfl, ⟨hR.st, (fun _ j hj => upd_on (hw j hj)), hR.w4.o, hR.w5.o, hR.w6.o, hR.w7.o, hR.w8.o, hR.w9.o, hR.w10.o, hR.w11.o, hR.w12.o, hR.w13.o, hR.w14.o, hR.w15.o, hR.w16.o, hR.w17.o, hR.w18.o, hR.w19.o, hR.w20.o, hR.w21.o, hR.w22.o, hR.w23.o, hR.w24.o, hR.w25.o, hR.w26.o, hR.f0.k, hR.f1.k, (fun _ => rfl), (fun _ => rfl), hR.f4.k, hR.f5.k, hR.f6.k, hR.f7.k, hR.f8.k, hR.f9.k, hR.f10.k, hR.f11.k, hR.f12.k, hR.f13.k, hR.f14.k, hR.f15.k, hR.f16.k, hR.f17.k, hR.f18.k, hR.f19.k, hR.f20.k, hR.f21.k, hR.f22.k, hR.f23.k, hR.f24.k, hR.f25.k, hR.f26.k⟩⟩
                refine EachOf.cons [1, 3] rfl (by kernel_rfl) ?_ ?_
                · rintro L A W ⟨v, rfl, hR⟩ hi hw K hK
                  have e1 := hR.f1 (hw 1 (by simp))
                  have e3 := hR.f3 (hw 3 (by simp))
                  simp only [e1, e3]
                  clear e1 e3
                  go_simp
                  refine hK.out _ _ ?_
                  exact ⟨(fun jz => if jz = 38 then .int .i64 (left : Int) else if jz = 40 then .int .i64 (-(left : Int)) else if jz = 41 then .int .i64 (lw : Int) else v jz), rfl, ⟨hR.st, hR.w3.o, (fun _ j hj => upd_on (hw j hj)), hR.w5.o, hR.w6.o, hR.w7.o, hR.w8.o, hR.w9.o, hR.w10.o, hR.w11.o, hR.w12.o, hR.w13.o, hR.w14.o, hR.w15.o, hR.w16.o, hR.w17.o, hR.w18.o, hR.w19.o, hR.w20.o, hR.w21.o, hR.w22.o, hR.w23.o, hR.w24.o, hR.w25.o, hR.w26.o, hR.f0.k, (fun _ => rfl), hR.f2.k, (fun _ => rfl), (fun _ => rfl), hR.f5.k, hR.f6.k, hR.f7.k, hR.f8.k, hR.f9.k, hR.f10.k, hR.f11.k, hR.f12.k, hR.f13.k, hR.f14.k, hR.f15.k, hR.f16.k, hR.f17.k, hR.f18.k, hR.f19.k, hR.f20.k, hR.f21.k, hR.f22.k, hR.f23.k, hR.f24.k, hR.f25.k, hR.f26.k⟩⟩
                refine EachOf.cons [0, 4] rfl (by kernel_rfl) ?_ ?_
                · rintro L A W ⟨v, rfl, hR⟩ hi hw K hK
                  have e0 := hR.f0 (hw 0 (by simp))
                  have e4 := hR.f4 (hw 4 (by simp))
                  simp only [e0, e4]
                  clear e0 e4
                  go_simp
                  refine hK.out _ _ ?_
                  exact ⟨(fun jz => if jz = 37 then .int .i64 (p : Int) else if jz = 41 then .int .i64 (lw : Int) else if jz = 42 then .int .i64 (u : Int) else v jz), rfl, ⟨hR.st, hR.w3.o, hR.w4.o, (fun _ j hj => upd_on (hw j hj)), hR.w6.o, hR.w7.o, hR.w8.o, hR.w9.o, hR.w10.o, hR.w11.o, hR.w12.o, hR.w13.o, hR.w14.o, hR.w15.o, hR.w16.o, hR.w17.o, hR.w18.o, hR.w19.o, hR.w20.o, hR.w21.o, hR.w22.o, hR.w23.o, hR.w24.o, hR.w25.o, hR.w26.o, (fun _ => rfl), hR.f1.k, hR.f2.k, hR.f3.k, (fun _ => rfl), (fun _ => rfl), hR.f6.k, hR.f7.k, hR.f8.k, hR.f9.k, hR.f10.k, hR.f11.k, hR.f12.k, hR.f13.k, hR.f14.k, hR.f15.k, hR.f16.k, hR.f17.k, hR.f18.k, hR.f19.k, hR.f20.k, hR.f21.k, hR.f22.k, hR.f23.k, hR.f24.k, hR.f25.k, hR.f26.k⟩⟩
                refine EachOf.cons [5] rfl (by kernel_rfl) ?_ ?_
                · rintro L A W ⟨v, rfl, hR⟩ hi hw K hK
                  have e5 := hR.f5 (hw 5 (by simp))
                  simp only [e5]
                  clear e5
                  go_simp
                  refine hK.out _ _ ?_
                  exact ⟨(fun jz => if jz = 42 then .int .i64 (u : Int) else if jz = 43 then .bool false else v jz), rfl, ⟨hR.st, hR.w3.o, hR.w4.o, hR.w5.o, (fun _ j hj => upd_on (hw j hj)), hR.w7.o, hR.w8.o, hR.w9.o, hR.w10.o, hR.w11.o, hR.w12.o, hR.w13.o, hR.w14.o, hR.w15.o, hR.w16.o, hR.w17.o, hR.w18.o, hR.w19.o, hR.w20.o, hR.w21.o, hR.w22.o, hR.w23.o, hR.w24.o, hR.w25.o, hR.w26.o, hR.f0.k, hR.f1.k, hR.f2.k, hR.f3.k, hR.f4.k, (fun _ => rfl), (fun _ => rfl), hR.f7.k, hR.f8.k, hR.f9.k, hR.f10.k, hR.f11.k, hR.f12.k, hR.f13.k, hR.f14.k, hR.f15.k, hR.f16.k, hR.f17.k, hR.f18.k, hR.f19.k, hR.f20.k, hR.f21.k, hR.f22.k, hR.f23.k, hR.f24.k, hR.f25.k, hR.f26.k⟩⟩
                refine EachOf.cons [6] rfl (by kernel_rfl) ?_ ?_
                · rintro L A W ⟨v, rfl, hR⟩ hi hw K hK
                  have e6 := hR.f6 (hw 6 (by simp))
                  simp only [e6]
                  clear e6
                  go_simp
                  refine hK.out _ _ ?_
                  exact ⟨(fun jz => if jz = 43 then .bool false else if jz = 44 then .bool false else v jz), rfl, ⟨hR.st, hR.w3.o, hR.w4.o, hR.w5.o, hR.w6.o, (fun _ j hj => upd_on (hw j hj)), hR.w8.o, hR.w9.o, hR.w10.o, hR.w11.o, hR.w12.o, hR.w13.o, hR.w14.o, hR.w15.o, hR.w16.o, hR.w17.o, hR.w18.o, hR.w19.o, hR.w20.o, hR.w21.o, hR.w22.o, hR.w23.o, hR.w24.o, hR.w25.o, hR.w26.o, hR.f0.k, hR.f1.k, hR.f2.k, hR.f3.k, hR.f4.k, hR.f5.k, (fun _ => rfl), (fun _ => rfl), hR.f8.k, hR.f9.k, hR.f10.k, hR.f11.k, hR.f12.k, hR.f13.k, hR.f14.k, hR.f15.k, hR.f16.k, hR.f17.k, hR.f18.k, hR.f19.k, hR.f20.k, hR.f21.k, hR.f22.k, hR.f23.k, hR.f24.k, hR.f25.k, hR.f26.k⟩⟩
                refine EachOf.cons [7] rfl (by kernel_rfl) ?_ ?_
                · rintro L A W ⟨v, rfl, hR⟩ hi hw K hK
                  have e7 := hR.f7 (hw 7 (by simp))
                  simp only [e7]
                  clear e7
                  go_simp
                  refine hK.out _ _ ?_
                  exact ⟨(fun jz => if jz = 44 then .bool false else if jz = 45 then .slice ra n c else v jz), rfl, ⟨hR.st, hR.w3.o, hR.w4.o, hR.w5.o, hR.w6.o, hR.w7.o, (fun _ j hj => upd_on (hw j hj)), hR.w9.o, hR.w10.o, hR.w11.o, hR.w12.o, hR.w13.o, hR.w14.o, hR.w15.o, hR.w16.o, hR.w17.o, hR.w18.o, hR.w19.o, hR.w20.o, hR.w21.o, hR.w22.o, hR.w23.o, hR.w24.o, hR.w25.o, hR.w26.o, hR.f0.k, hR.f1.k, hR.f2.k, hR.f3.k, hR.f4.k, hR.f5.k, hR.f6.k, (fun _ => rfl), (fun _ => rfl), hR.f9.k, hR.f10.k, hR.f11.k, hR.f12.k, hR.f13.k, hR.f14.k, hR.f15.k, hR.f16.k, hR.f17.k, hR.f18.k, hR.f19.k, hR.f20.k, hR.f21.k, hR.f22.k, hR.f23.k, hR.f24.k, hR.f25.k, hR.f26.k⟩⟩
                refine EachOf.cons [7] rfl (by kernel_rfl) ?_ ?_
                · rintro L A W ⟨v, rfl, hR⟩ hi hw K hK
                  have e7 := hR.f7 (hw 7 (by simp))
                  simp only [e7]
                  clear e7
                  go_simp
                  refine hK.out _ _ ?_
                  exact ⟨(fun jz => if jz = 44 then .bool false else if jz = 46 then .int .i64 (p : Int) else v jz), rfl, ⟨hR.st, hR.w3.o, hR.w4.o, hR.w5.o, hR.w6.o, hR.w7.o, hR.w8.o, (fun _ j hj => upd_on (hw j hj)), hR.w10.o, hR.w11.o, hR.w12.o, hR.w13.o, hR.w14.o, hR.w15.o, hR.w16.o, hR.w17.o, hR.w18.o, hR.w19.o, hR.w20.o, hR.w21.o, hR.w22.o, hR.w23.o, hR.w24.o, hR.w25.o, hR.w26.o, hR.f0.k, hR.f1.k, hR.f2.k, hR.f3.k, hR.f4.k, hR.f5.k, hR.f6.k, (fun _ => rfl), hR.f8.k, (fun _ => rfl), hR.f10.k, hR.f11.k, hR.f12.k, hR.f13.k, hR.f14.k, hR.f15.k, hR.f16.k, hR.f17.k, hR.f18.k, hR.f19.k, hR.f20.k, hR.f21.k, hR.f22.k, hR.f23.k, hR.f24.k, hR.f25.k, hR.f26.k⟩⟩
                refine EachOf.cons [7, 8, 9] rfl (by kernel_rfl) ?_ ?_
                · rintro L A W ⟨v, rfl, hR⟩ hi hw K hK
                  have e8 := hR.f8 (hw 8 (by simp))
                  have e9 := hR.f9 (hw 9 (by simp))
                  have e7 := hR.f7 (hw 7 (by simp))
                  simp only [e8, e9, e7]
                  clear e8 e9 e7
                  go_simp
                  go_at_call 29
                  (with_reducible refine ((CSp _ (below_on HB2.out hR.st)).out).mono ?_)
                  rintro e w2 ⟨rfl, rfl⟩
                  go_simp
                  refine hK.out _ _ ?_
                  exact ⟨(fun jz => if jz = 45 then .slice ra n c else if jz = 46 then .int .i64 (p : Int) else if jz = 44 then .bool false else if jz = 47 then .int .i64 s else v jz), rfl, ⟨hR.st, hR.w3.o, hR.w4.o, hR.w5.o, hR.w6.o, hR.w7.o, hR.w8.o, hR.w9.o, (fun _ j hj => upd_on (hw j hj)), hR.w11.o, hR.w12.o, hR.w13.o, hR.w14.o, hR.w15.o, hR.w16.o, hR.w17.o, hR.w18.o, hR.w19.o, hR.w20.o, hR.w21.o, hR.w22.o, hR.w23.o, hR.w24.o, hR.w25.o, hR.w26.o, hR.f0.k, hR.f1.k, hR.f2.k, hR.f3.k, hR.f4.k, hR.f5.k, hR.f6.k, (fun _ => rfl), (fun _ => rfl), (fun _ => rfl), (fun _ => rfl), hR.f11.k, hR.f12.k, hR.f13.k, hR.f14.k, hR.f15.k, hR.f16.k, hR.f17.k, hR.f18.k, hR.f19.k, hR.f20.k, hR.f21.k, hR.f22.k, hR.f23.k, hR.f24.k, hR.f25.k, hR.f26.k⟩⟩
                refine EachOf.cons [7, 10] rfl (by kernel_rfl) ?_ ?_
                · rintro L A W ⟨v, rfl, hR⟩ hi hw K hK
                  have e10 := hR.f10 (hw 10 (by simp))
                  have e7 := hR.f7 (hw 7 (by simp))
                  simp only [e10, e7]
                  clear e10 e7
                  go_simp
                  refine hK.out _ _ ?_
                  exact ⟨(fun jz => if jz = 47 then .int .i64 s else if jz = 44 then .bool false else if jz = 48 then .bool true else v jz), rfl, ⟨hR.st, hR.w3.o, hR.w4.o, hR.w5.o, hR.w6.o, hR.w7.o, hR.w8.o, hR.w9.o, hR.w10.o, (fun _ j hj => upd_on (hw j hj)), hR.w12.o, hR.w13.o, hR.w14.o, hR.w15.o, hR.w16.o, hR.w17.o, hR.w18.o, hR.w19.o, hR.w20.o, hR.w21.o, hR.w22.o, hR.w23.o, hR.w24.o, hR.w25.o, hR.w26.o, hR.f0.k, hR.f1.k, hR.f2.k, hR.f3.k, hR.f4.k, hR.f5.k, hR.f6.k, (fun _ => rfl), hR.f8.k, hR.f9.k, (fun _ => rfl), (fun _ => rfl), hR.f12.k, hR.f13.k, hR.f14.k, hR.f15.k, hR.f16.k, hR.f17.k, hR.f18.k, hR.f19.k, hR.f20.k, hR.f21.k, hR.f22.k, hR.f23.k, hR.f24.k, hR.f25.k, hR.f26.k⟩⟩
                refine EachOf.cons [7, 11] rfl (by kernel_rfl) ?_ ?_
                · rintro L A W ⟨v, rfl, hR⟩ hi hw K hK
                  have e7 := hR.f7 (hw 7 (by simp))
                  have e11 := hR.f11 (hw 11 (by simp))
                  simp only [e7, e11]
                  clear e7 e11
                  go_simp
                  refine hK.out _ _ ?_
                  exact ⟨(fun jz => if jz = 44 then .bool false else if jz = 48 then .bool true else if jz = 49 then .bool true else v jz), rfl, ⟨hR.st, hR.w3.o, hR.w4.o, hR.w5.o, hR.w6.o, hR.w7.o, hR.w8.o, hR.w9.o, hR.w10.o, hR.w11.o, (fun _ j hj => upd_on (hw j hj)), hR.w13.o, hR.w14.o, hR.w15.o, hR.w16.o, hR.w17.o, hR.w18.o, hR.w19.o, hR.w20.o, hR.w21.o, hR.w22.o, hR.w23.o, hR.w24.o, hR.w25.o, hR.w26.o, hR.f0.k, hR.f1.k, hR.f2.k, hR.f3.k, hR.f4.k, hR.f5.k, hR.f6.k, (fun _ => rfl), hR.f8.k, hR.f9.k, hR.f10.k, (fun _ => rfl), (fun _ => rfl), hR.f13.k, hR.f14.k, hR.f15.k, hR.f16.k, hR.f17.k, hR.f18.k, hR.f19.k, hR.f20.k, hR.f21.k, hR.f22.k, hR.f23.k, hR.f24.k, hR.f25.k, hR.f26.k⟩⟩
                refine EachOf.cons [12] rfl (by kernel_rfl) ?_ ?_
                · rintro L A W ⟨v, rfl, hR⟩ hi hw K hK
                  have e12 := hR.f12 (hw 12 (by simp))
                  simp only [e12]
                  clear e12
                  go_simp
                  refine hK.out _ _ ?_
                  exact ⟨(fun jz => if jz = 49 then .bool true else if jz = 50 then .bool true else v jz), rfl, ⟨hR.st, hR.w3.o, hR.w4.o, hR.w5.o, hR.w6.o, hR.w7.o, hR.w8.o, hR.w9.o, hR.w10.o, hR.w11.o, hR.w12.o, (fun _ j hj => upd_on (hw j hj)), hR.w14.o, hR.w15.o, hR.w16.o, hR.w17.o, hR.w18.o, hR.w19.o, hR.w20.o, hR.w21.o, hR.w22.o, hR.w23.o, hR.w24.o, hR.w25.o, hR.w26.o, hR.f0.k, hR.f1.k, hR.f2.k, hR.f3.k, hR.f4.k, hR.f5.k, hR.f6.k, hR.f7.k, hR.f8.k, hR.f9.k, hR.f10.k, hR.f11.k, (fun _ => rfl), (fun _ => rfl), hR.f14.k, hR.f15.k, hR.f16.k, hR.f17.k, hR.f18.k, hR.f19.k, hR.f20.k, hR.f21.k, hR.f22.k, hR.f23.k, hR.f24.k, hR.f25.k, hR.f26.k⟩⟩
                refine EachOf.cons [13] rfl (by kernel_rfl) ?_ ?_
                · rintro L A W ⟨v, rfl, hR⟩ hi hw K hK
                  have e13 := hR.f13 (hw 13 (by simp))
                  simp only [e13]
                  clear e13
                  go_simp
                  refine hK.out _ _ ?_
                  exact ⟨(fun jz => if jz = 50 then .bool true else if jz = 51 then undef else v jz), rfl, ⟨hR.st, hR.w3.o, hR.w4.o, hR.w5.o, hR.w6.o, hR.w7.o, hR.w8.o, hR.w9.o, hR.w10.o, hR.w11.o, hR.w12.o, hR.w13.o, (fun _ j hj => upd_on (hw j hj)), hR.w15.o, hR.w16.o, hR.w17.o, hR.w18.o, hR.w19.o, hR.w20.o, hR.w21.o, hR.w22.o, hR.w23.o, hR.w24.o, hR.w25.o, hR.w26.o, hR.f0.k, hR.f1.k, hR.f2.k, hR.f3.k, hR.f4.k, hR.f5.k, hR.f6.k, hR.f7.k, hR.f8.k, hR.f9.k, hR.f10.k, hR.f11.k, hR.f12.k, (fun _ => rfl), (fun _ => rfl), hR.f15.k, hR.f16.k, hR.f17.k, hR.f18.k, hR.f19.k, hR.f20.k, hR.f21.k, hR.f22.k, hR.f23.k, hR.f24.k, hR.f25.k, hR.f26.k⟩⟩
                refine EachOf.cons [13] rfl (by kernel_rfl) ?_ ?_
                · rintro L A W ⟨v, rfl, hR⟩ hi hw K hK
                  have e13 := hR.f13 (hw 13 (by simp))
                  simp only [e13]
                  clear e13
                  go_simp
                  refine hK.out _ _ ?_
                  exact ⟨(fun jz => if jz = 50 then .bool true else if jz = 52 then undef else v jz), rfl, ⟨hR.st, hR.w3.o, hR.w4.o, hR.w5.o, hR.w6.o, hR.w7.o, hR.w8.o, hR.w9.o, hR.w10.o, hR.w11.o, hR.w12.o, hR.w13.o, hR.w14.o, (fun _ j hj => upd_on (hw j hj)), hR.w16.o, hR.w17.o, hR.w18.o, hR.w19.o, hR.w20.o, hR.w21.o, hR.w22.o, hR.w23.o, hR.w24.o, hR.w25.o, hR.w26.o, hR.f0.k, hR.f1.k, hR.f2.k, hR.f3.k, hR.f4.k, hR.f5.k, hR.f6.k, hR.f7.k, hR.f8.k, hR.f9.k, hR.f10.k, hR.f11.k, hR.f12.k, (fun _ => rfl), hR.f14.k, (fun _ => rfl), hR.f16.k, hR.f17.k, hR.f18.k, hR.f19.k, hR.f20.k, hR.f21.k, hR.f22.k, hR.f23.k, hR.f24.k, hR.f25.k, hR.f26.k⟩⟩
                refine EachOf.cons [13] rfl (by kernel_rfl) ?_ ?_
                · rintro L A W ⟨v, rfl, hR⟩ hi hw K hK
                  have e13 := hR.f13 (hw 13 (by simp))
                  simp only [e13]
                  clear e13
                  go_simp
                  refine hK.out _ _ ?_
                  exact ⟨(fun jz => if jz = 50 then .bool true else if jz = 53 then undef else v jz), rfl, ⟨hR.st, hR.w3.o, hR.w4.o, hR.w5.o, hR.w6.o, hR.w7.o, hR.w8.o, hR.w9.o, hR.w10.o, hR.w11.o, hR.w12.o, hR.w13.o, hR.w14.o, hR.w15.o, (fun _ j hj => upd_on (hw j hj)), hR.w17.o, hR.w18.o, hR.w19.o, hR.w20.o, hR.w21.o, hR.w22.o, hR.w23.o, hR.w24.o, hR.w25.o, hR.w26.o, hR.f0.k, hR.f1.k, hR.f2.k, hR.f3.k, hR.f4.k, hR.f5.k, hR.f6.k, hR.f7.k, hR.f8.k, hR.f9.k, hR.f10.k, hR.f11.k, hR.f12.k, (fun _ => rfl), hR.f14.k, hR.f15.k, (fun _ => rfl), hR.f17.k, hR.f18.k, hR.f19.k, hR.f20.k, hR.f21.k, hR.f22.k, hR.f23.k, hR.f24.k, hR.f25.k, hR.f26.k⟩⟩
                refine EachOf.cons [13, 15, 16] rfl (by kernel_rfl) ?_ ?_
                · rintro L A W ⟨v, rfl, hR⟩ hi hw K hK
                  have e15 := hR.f15 (hw 15 (by simp))
                  have e16 := hR.f16 (hw 16 (by simp))
                  have e13 := hR.f13 (hw 13 (by simp))
                  simp only [e15, e16, e13]
                  clear e15 e16 e13
                  go_simp
                  refine hK.out _ _ ?_
                  exact ⟨(fun jz => if jz = 52 then undef else if jz = 53 then undef else if jz = 50 then .bool true else if jz = 54 then undef else v jz), rfl, ⟨hR.st, hR.w3.o, hR.w4.o, hR.w5.o, hR.w6.o, hR.w7.o, hR.w8.o, hR.w9.o, hR.w10.o, hR.w11.o, hR.w12.o, hR.w13.o, hR.w14.o, hR.w15.o, hR.w16.o, (fun _ j hj => upd_on (hw j hj)), hR.w18.o, hR.w19.o, hR.w20.o, hR.w21.o, hR.w22.o, hR.w23.o, hR.w24.o, hR.w25.o, hR.w26.o, hR.f0.k, hR.f1.k, hR.f2.k, hR.f3.k, hR.f4.k, hR.f5.k, hR.f6.k, hR.f7.k, hR.f8.k, hR.f9.k, hR.f10.k, hR.f11.k, hR.f12.k, (fun _ => rfl), hR.f14.k, (fun _ => rfl), (fun _ => rfl), (fun _ => rfl), hR.f18.k, hR.f19.k, hR.f20.k, hR.f21.k, hR.f22.k, hR.f23.k, hR.f24.k, hR.f25.k, hR.f26.k⟩⟩
                refine EachOf.cons [13, 14, 17] rfl (by kernel_rfl) ?_ ?_
                · rintro L A W ⟨v, rfl, hR⟩ hi hw K hK
                  have e14 := hR.f14 (hw 14 (by simp))
                  have e17 := hR.f17 (hw 17 (by simp))
                  have e13 := hR.f13 (hw 13 (by simp))
                  simp only [e14, e17, e13]
                  clear e14 e17 e13
                  go_simp
                  refine hK.out _ _ ?_
                  exact ⟨(fun jz => if jz = 51 then undef else if jz = 54 then undef else if jz = 50 then .bool true else if jz = 55 then undef else v jz), rfl, ⟨hR.st, hR.w3.o, hR.w4.o, hR.w5.o, hR.w6.o, hR.w7.o, hR.w8.o, hR.w9.o, hR.w10.o, hR.w11.o, hR.w12.o, hR.w13.o, hR.w14.o, hR.w15.o, hR.w16.o, hR.w17.o, (fun _ j hj => upd_on (hw j hj)), hR.w19.o, hR.w20.o, hR.w21.o, hR.w22.o, hR.w23.o, hR.w24.o, hR.w25.o, hR.w26.o, hR.f0.k, hR.f1.k, hR.f2.k, hR.f3.k, hR.f4.k, hR.f5.k, hR.f6.k, hR.f7.k, hR.f8.k, hR.f9.k, hR.f10.k, hR.f11.k, hR.f12.k, (fun _ => rfl), (fun _ => rfl), hR.f15.k, hR.f16.k, (fun _ => rfl), (fun _ => rfl), hR.f19.k, hR.f20.k, hR.f21.k, hR.f22.k, hR.f23.k, hR.f24.k, hR.f25.k, hR.f26.k⟩⟩
                refine EachOf.cons [13, 18] rfl (by kernel_rfl) ?_ ?_
                · rintro L A W ⟨v, rfl, hR⟩ hi hw K hK
                  have e18 := hR.f18 (hw 18 (by simp))
                  have e13 := hR.f13 (hw 13 (by simp))
                  simp only [e18, e13]
                  clear e18 e13
                  go_simp
                  refine hK.out _ _ ?_
                  exact ⟨(fun jz => if jz = 55 then undef else if jz = 50 then .bool true else if jz = 56 then undef else v jz), rfl, ⟨hR.st, hR.w3.o, hR.w4.o, hR.w5.o, hR.w6.o, hR.w7.o, hR.w8.o, hR.w9.o, hR.w10.o, hR.w11.o, hR.w12.o, hR.w13.o, hR.w14.o, hR.w15.o, hR.w16.o, hR.w17.o, hR.w18.o, (fun _ j hj => upd_on (hw j hj)), hR.w20.o, hR.w21.o, hR.w22.o, hR.w23.o, hR.w24.o, hR.w25.o, hR.w26.o, hR.f0.k, hR.f1.k, hR.f2.k, hR.f3.k, hR.f4.k, hR.f5.k, hR.f6.k, hR.f7.k, hR.f8.k, hR.f9.k, hR.f10.k, hR.f11.k, hR.f12.k, (fun _ => rfl), hR.f14.k, hR.f15.k, hR.f16.k, hR.f17.k, (fun _ => rfl), (fun _ => rfl), hR.f20.k, hR.f21.k, hR.f22.k, hR.f23.k, hR.f24.k, hR.f25.k, hR.f26.k⟩⟩
                refine EachOf.cons [13] rfl (by kernel_rfl) ?_ ?_
                · rintro L A W ⟨v, rfl, hR⟩ hi hw K hK
                  have e13 := hR.f13 (hw 13 (by simp))
                  simp only [e13]
                  clear e13
                  go_simp
                  refine hK.out _ _ ?_
                  exact ⟨(fun jz => if jz = 50 then .bool true else if jz = 57 then undef else v jz), rfl, ⟨hR.st, hR.w3.o, hR.w4.o, hR.w5.o, hR.w6.o, hR.w7.o, hR.w8.o, hR.w9.o, hR.w10.o, hR.w11.o, hR.w12.o, hR.w13.o, hR.w14.o, hR.w15.o, hR.w16.o, hR.w17.o, hR.w18.o, hR.w19.o, (fun _ j hj => upd_on (hw j hj)), hR.w21.o, hR.w22.o, hR.w23.o, hR.w24.o, hR.w25.o, hR.w26.o, hR.f0.k, hR.f1.k, hR.f2.k, hR.f3.k, hR.f4.k, hR.f5.k, hR.f6.k, hR.f7.k, hR.f8.k, hR.f9.k, hR.f10.k, hR.f11.k, hR.f12.k, (fun _ => rfl), hR.f14.k, hR.f15.k, hR.f16.k, hR.f17.k, hR.f18.k, hR.f19.k, (fun _ => rfl), hR.f21.k, hR.f22.k, hR.f23.k, hR.f24.k, hR.f25.k, hR.f26.k⟩⟩
                refine EachOf.cons [13] rfl (by kernel_rfl) ?_ ?_
                · rintro L A W ⟨v, rfl, hR⟩ hi hw K hK
                  have e13 := hR.f13 (hw 13 (by simp))
                  simp only [e13]
                  clear e13
                  go_simp
                  refine hK.out _ _ ?_
                  exact ⟨(fun jz => if jz = 50 then .bool true else if jz = 58 then undef else v jz), rfl, ⟨hR.st, hR.w3.o, hR.w4.o, hR.w5.o, hR.w6.o, hR.w7.o, hR.w8.o, hR.w9.o, hR.w10.o, hR.w11.o, hR.w12.o, hR.w13.o, hR.w14.o, hR.w15.o, hR.w16.o, hR.w17.o, hR.w18.o, hR.w19.o, hR.w20.o, (fun _ j hj => upd_on (hw j hj)), hR.w22.o, hR.w23.o, hR.w24.o, hR.w25.o, hR.w26.o, hR.f0.k, hR.f1.k, hR.f2.k, hR.f3.k, hR.f4.k, hR.f5.k, hR.f6.k, hR.f7.k, hR.f8.k, hR.f9.k, hR.f10.k, hR.f11.k, hR.f12.k, (fun _ => rfl), hR.f14.k, hR.f15.k, hR.f16.k, hR.f17.k, hR.f18.k, hR.f19.k, hR.f20.k, (fun _ => rfl), hR.f22.k, hR.f23.k, hR.f24.k, hR.f25.k, hR.f26.k⟩⟩
                refine EachOf.cons [13, 20, 21] rfl (by kernel_rfl) ?_ ?_
                · rintro L A W ⟨v, rfl, hR⟩ hi hw K hK
                  have e20 := hR.f20 (hw 20 (by simp))
                  have e21 := hR.f21 (hw 21 (by simp))
                  have e13 := hR.f13 (hw 13 (by simp))
                  simp only [e20, e21, e13]
                  clear e20 e21 e13
                  go_simp
                  refine hK.out _ _ ?_
                  exact ⟨(fun jz => if jz = 57 then undef else if jz = 58 then undef else if jz = 50 then .bool true else if jz = 59 then undef else v jz), rfl, ⟨hR.st, hR.w3.o, hR.w4.o, hR.w5.o, hR.w6.o, hR.w7.o, hR.w8.o, hR.w9.o, hR.w10.o, hR.w11.o, hR.w12.o, hR.w13.o, hR.w14.o, hR.w15.o, hR.w16.o, hR.w17.o, hR.w18.o, hR.w19.o, hR.w20.o, hR.w21.o, (fun _ j hj => upd_on (hw j hj)), hR.w23.o, hR.w24.o, hR.w25.o, hR.w26.o, hR.f0.k, hR.f1.k, hR.f2.k, hR.f3.k, hR.f4.k, hR.f5.k, hR.f6.k, hR.f7.k, hR.f8.k, hR.f9.k, hR.f10.k, hR.f11.k, hR.f12.k, (fun _ => rfl), hR.f14.k, hR.f15.k, hR.f16.k, hR.f17.k, hR.f18.k, hR.f19.k, (fun _ => rfl), (fun _ => rfl), (fun _ => rfl), hR.f23.k, hR.f24.k, hR.f25.k, hR.f26.k⟩⟩
                refine EachOf.cons [13, 22] rfl (by kernel_rfl) ?_ ?_
                · rintro L A W ⟨v, rfl, hR⟩ hi hw K hK
                  have e22 := hR.f22 (hw 22 (by simp))
                  have e13 := hR.f13 (hw 13 (by simp))
                  simp only [e22, e13]
                  clear e22 e13
                  go_simp
                  refine hK.out _ _ ?_
                  exact ⟨(fun jz => if jz = 59 then undef else if jz = 50 then .bool true else if jz = 60 then undef else v jz), rfl, ⟨hR.st, hR.w3.o, hR.w4.o, hR.w5.o, hR.w6.o, hR.w7.o, hR.w8.o, hR.w9.o, hR.w10.o, hR.w11.o, hR.w12.o, hR.w13.o, hR.w14.o, hR.w15.o, hR.w16.o, hR.w17.o, hR.w18.o, hR.w19.o, hR.w20.o, hR.w21.o, hR.w22.o, (fun _ j hj => upd_on (hw j hj)), hR.w24.o, hR.w25.o, hR.w26.o, hR.f0.k, hR.f1.k, hR.f2.k, hR.f3.k, hR.f4.k, hR.f5.k, hR.f6.k, hR.f7.k, hR.f8.k, hR.f9.k, hR.f10.k, hR.f11.k, hR.f12.k, (fun _ => rfl), hR.f14.k, hR.f15.k, hR.f16.k, hR.f17.k, hR.f18.k, hR.f19.k, hR.f20.k, hR.f21.k, (fun _ => rfl), (fun _ => rfl), hR.f24.k, hR.f25.k, hR.f26.k⟩⟩
                refine EachOf.cons [13, 23] rfl (by kernel_rfl) ?_ ?_
                · rintro L A W ⟨v, rfl, hR⟩ hi hw K hK
                  have e23 := hR.f23 (hw 23 (by simp))
                  have e13 := hR.f13 (hw 13 (by simp))
                  simp only [e23, e13]
                  clear e23 e13
                  go_simp
                  refine hK.out _ _ ?_
                  exact ⟨(fun jz => if jz = 60 then undef else if jz = 50 then .bool true else if jz = 61 then undef else v jz), rfl, ⟨hR.st, hR.w3.o, hR.w4.o, hR.w5.o, hR.w6.o, hR.w7.o, hR.w8.o, hR.w9.o, hR.w10.o, hR.w11.o, hR.w12.o, hR.w13.o, hR.w14.o, hR.w15.o, hR.w16.o, hR.w17.o, hR.w18.o, hR.w19.o, hR.w20.o, hR.w21.o, hR.w22.o, hR.w23.o, (fun _ j hj => upd_on (hw j hj)), hR.w25.o, hR.w26.o, hR.f0.k, hR.f1.k, hR.f2.k, hR.f3.k, hR.f4.k, hR.f5.k, hR.f6.k, hR.f7.k, hR.f8.k, hR.f9.k, hR.f10.k, hR.f11.k, hR.f12.k, (fun _ => rfl), hR.f14.k, hR.f15.k, hR.f16.k, hR.f17.k, hR.f18.k, hR.f19.k, hR.f20.k, hR.f21.k, hR.f22.k, (fun _ => rfl), (fun _ => rfl), hR.f25.k, hR.f26.k⟩⟩
                refine EachOf.cons [13, 19, 24] rfl (by kernel_rfl) ?_ ?_
                · rintro L A W ⟨v, rfl, hR⟩ hi hw K hK
                  have e19 := hR.f19 (hw 19 (by simp))
                  have e24 := hR.f24 (hw 24 (by simp))
                  have e13 := hR.f13 (hw 13 (by simp))
                  simp only [e19, e24, e13]
                  clear e19 e24 e13
                  go_simp
                  refine hK.out _ _ ?_
                  exact ⟨(fun jz => if jz = 56 then undef else if jz = 61 then undef else if jz = 50 then .bool true else if jz = 62 then undef else v jz), rfl, ⟨hR.st, hR.w3.o, hR.w4.o, hR.w5.o, hR.w6.o, hR.w7.o, hR.w8.o, hR.w9.o, hR.w10.o, hR.w11.o, hR.w12.o, hR.w13.o, hR.w14.o, hR.w15.o, hR.w16.o, hR.w17.o, hR.w18.o, hR.w19.o, hR.w20.o, hR.w21.o, hR.w22.o, hR.w23.o, hR.w24.o, (fun _ j hj => upd_on (hw j hj)), hR.w26.o, hR.f0.k, hR.f1.k, hR.f2.k, hR.f3.k, hR.f4.k, hR.f5.k, hR.f6.k, hR.f7.k, hR.f8.k, hR.f9.k, hR.f10.k, hR.f11.k, hR.f12.k, (fun _ => rfl), hR.f14.k, hR.f15.k, hR.f16.k, hR.f17.k, hR.f18.k, (fun _ => rfl), hR.f20.k, hR.f21.k, hR.f22.k, hR.f23.k, (fun _ => rfl), (fun _ => rfl), hR.f26.k⟩⟩
                refine EachOf.cons [13, 25] rfl (by kernel_rfl) ?_ ?_
                · rintro L A W ⟨v, rfl, hR⟩ hi hw K hK
                  have e13 := hR.f13 (hw 13 (by simp))
                  have e25 := hR.f25 (hw 25 (by simp))
                  simp only [e13, e25]
                  clear e13 e25
                  go_simp
                  refine hK.out _ _ ?_
                  exact ⟨(fun jz => if jz = 50 then .bool true else if jz = 62 then undef else if jz = 63 then .bool true else v jz), rfl, ⟨hR.st, hR.w3.o, hR.w4.o, hR.w5.o, hR.w6.o, hR.w7.o, hR.w8.o, hR.w9.o, hR.w10.o, hR.w11.o, hR.w12.o, hR.w13.o, hR.w14.o, hR.w15.o, hR.w16.o, hR.w17.o, hR.w18.o, hR.w19.o, hR.w20.o, hR.w21.o, hR.w22.o, hR.w23.o, hR.w24.o, hR.w25.o, (fun _ j hj => upd_on (hw j hj)), hR.f0.k, hR.f1.k, hR.f2.k, hR.f3.k, hR.f4.k, hR.f5.k, hR.f6.k, hR.f7.k, hR.f8.k, hR.f9.k, hR.f10.k, hR.f11.k, hR.f12.k, (fun _ => rfl), hR.f14.k, hR.f15.k, hR.f16.k, hR.f17.k, hR.f18.k, hR.f19.k, hR.f20.k, hR.f21.k, hR.f22.k, hR.f23.k, hR.f24.k, (fun _ => rfl), (fun _ => rfl)⟩⟩
                exact EachOf.nil
              · rintro L A W ⟨vv, rfl, hR⟩ hall
                have hst := Lib.hid hR.st
                have e26 := hR.f26 (hall 26 (by simp))
                simp only [e26]
                clear hR e26 hall
                go_wp2_with fail
                go_roundg (2 * v)
                case measure => omega
                case rel => exact ⟨v, b, rfl, rfl, rfl, by omega, hb, below_on HU.out hst.out, T2.out, hsub⟩
        · have lp : ¬ (p : Int) > 0 := by omega
          have ep : p = 0 := by omega
          subst ep
          have hgot := U.out.2.1.got HEX4.out
          have hbs : b &&& left = b := hgot.1.1.1
          have hb0 := hgot.1.1.pos
          have wdb : IntKind.i64.wrap ((left : Int) - (b : Int)) = ((left - b : Nat) : Int) := by rw [IntWalk.i64_in _ (by omega)]; omega
          have hFn : F (left - b) = 0 := by
            have h1 := HAD.out left b hlM hbs
            rw [← sub_minus left b hbs (by omega)] at h1
            have h2 := hgot.1.1.2.2
            have h3 := HFL.out
            omega
          have HN : Hid (∀ ps, PtC F C n (left - b) ps → PtC F C n T ((dn ++ [b]) ++ ps)) := fun ps hps => by
            have := HNX.out (b :: ps) ⟨hl0, hgot.1, hgot.2, hps⟩
            simpa using this
          have HFN := Lib.hid hFn
          have HB5 := Lib.hid (below_on HB.out U.out.1)
          have HPL2 := Lib.hid (HPL.out.on U.out.1)
          have C2 := fun W => CIX b W (by omega)
          have HID : Hid ((dn ++ [b]).map (LR n) = dn.map (LR n) ++ [ixs (bitR b) n]) := by show _ = _; simp; rfl
          clear U hgot hbs hFn HPL HNX HEX4 HS3
          generalize ixs (bitR b) n = lpp at *
          obtain ⟨l2, hl2⟩ : ∃ l2, l2 = left - b := ⟨_, rfl⟩
          rw [← hl2] at wdb HN HFN
          go_wp2_with (first
            | (go_at_call 31; (with_reducible refine (((C2 _).out).mono ?_)); rintro e w6 ⟨hb6, qa, qc, rfl, hown⟩; (have B5 : Hid (Below w6.heap.size w6 (w6.alloc (Obj.cells #[.slice qa lpp.length qc] 22))) := (Below.refl _ _).alloc (Nat.le_refl _) _); (have O5 : Hid ((w6.alloc (Obj.cells #[.slice qa lpp.length qc] 22)).ownsRow w3.heap.size 22 1 (.slice pa dn.length pc) dn.length rows) := by (have h := (own_on (HPL2.out.on hb6).top B5.out); rw [hlen] at h; exact h)); (have A5 : Hid (∀ m u, [Value.slice qa lpp.length qc][m]? = some u → (w6.alloc (Obj.cells #[.slice qa lpp.length qc] 22)).cell? ((⟨w6.heap.size, 0, none⟩ : Addr).add m) = some u) := one_news (by simp [go_sem])); (have L5 : Hid (w3.heap.size ≤ (w6.alloc (Obj.cells #[.slice qa lpp.length qc] 22)).heap.size) := by (show _ ≤ _; have h2 := HB5.out.size; have h3 := hb6.size; have h4 := B5.out.size; omega)))
            | (at_builtin; (refine wpList_append_lies _ rfl _ _ 23 rfl w3.heap.size 22 i0 (.slice none 0 0) 1 24 Tryd.underlying23 HI.out.1 HI.out.2.1 HI.out.2.2.1 HI.out.2.2.2 rfl (by decide) _ _ _ rfl O5.out ⟨w6.heap.size, 0, none⟩ 1 1 [.slice qa lpp.length qc] rfl rfl A5.out (by intro u hu; simp at hu; subst hu; rfl) (by omega) (by unfold maxLen; omega) (by omega) L5.out _ rfl ?_; intro q5 cap5 W5 hgo hgrow hat hqlt)))
          have hA := grown_only (Below.refl _ _) hgrow
          have hown2 := own_on hown B5.out
          have HPB := (HPL2.out.on hb6).on B5.out
          have HSZ : w3.heap.size ≤ W2.heap.size := HB5.out.size
          have T1 : Hid (Below w3.heap.size w3 W5 ∧ PL W5 w3.heap.size (.slice (some ⟨q5, 0, none⟩) (dn.length + 1) cap5) ((dn ++ [b]).map (LR n)) (rows ++ [.slice qa lpp.length qc]) ∧ F l2 = 0 ∧ (∀ ps, PtC F C n l2 ps → PtC F C n T ((dn ++ [b]) ++ ps))) := by
            refine ⟨?_, ?_, HFN.out, HN.out⟩
            · exact (below_on (below_on HB5.out hb6) B5.out).trans (hA.below (below_on (below_on HB5.out hb6) B5.out).size (fun c hc => (O5.out.lt c hc).1))
            · rw [HID.out]
              exact HPB.push (own_mono hown2 HSZ) hA (by rw [hlen]; exact hgo)
          clear hgo hgrow hat hqlt hA hown hown2 HPB B5 O5 A5 L5 HPL2 HN HFN
          go_roundg (2 * l2)
          case measure => omega
          case rel => exact ⟨l2, dn ++ [b], _, by rw [hl2], rfl, by simp; omega, T1⟩
end Go.Proofs.YtjonhhmapbibaaaDoor
