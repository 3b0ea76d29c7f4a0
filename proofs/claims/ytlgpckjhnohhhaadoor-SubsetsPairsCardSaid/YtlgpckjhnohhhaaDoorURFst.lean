/- Layer 7's reference: First. -/
import Derived.Test.YtlgpckjhnohhhaaDoorUEar
namespace Go.Proofs.YtlgpckjhnohhhaaDoor
open Go.ChangeShapes Go.WideShapes Go.ChangeAt Go.RowKit Go.Joins Go.Deep Go.Shelf
set_option linter.unusedVariables false

def LR (n t : Nat) : List Nat := ixs (bitR t) n
theorem LR_le (n t : Nat) : (LR n t).length ≤ n := by unfold LR ixs; exact Nat.le_trans (List.length_filter_le _ _) (by simp)
/-- A set of the family. -/
def GR (f : Nat → Int) (n : Nat) (sum : Int) (least t : Nat) : Prop := smS (bitR t) f n = sum ∧ least ≤ (LR n t).length
/-- The first one of the sets up to k. -/
def RfI (f : Nat → Int) (n : Nat) (sum : Int) (least k : Nat) (b : Int) : Prop :=
  (b = -1 ∧ ∀ t, t < k → ¬ GR f n sum least t) ∨ (∃ t : Nat, b = (t : Int) ∧ t < k ∧ GR f n sum least t ∧ ∀ t', t' < k → GR f n sum least t' → LR n t' = LR n t ∨ bef (LR n t) (LR n t'))
theorem RfI.skip {f : Nat → Int} {n least k : Nat} {sum b : Int} (h : RfI f n sum least k b) (hn : ¬ GR f n sum least k) : RfI f n sum least (k + 1) b := by
  rcases h with ⟨e, h⟩ | ⟨t, e, h1, h2, h3⟩
  · exact .inl ⟨e, fun t ht => by
      by_cases q : t = k
      · rw [q]; exact hn
      · exact h t (by omega)⟩
  · exact .inr ⟨t, e, by omega, h2, fun t' ht hg => by
      by_cases q : t' = k
      · rw [q] at hg; exact absurd hg hn
      · exact h3 t' (by omega) hg⟩
theorem RfI.stay {f : Nat → Int} {n least k t : Nat} {sum : Int} (h : RfI f n sum least k (t : Int)) (hn : ¬ bef (LR n k) (LR n t)) : RfI f n sum least (k + 1) (t : Int) := by
  rcases h with ⟨e, h⟩ | ⟨t2, e, h1, h2, h3⟩
  · omega
  · have : t2 = t := by omega
    subst this
    exact .inr ⟨t2, rfl, by omega, h2, fun t' ht hg => by
      by_cases q : t' = k
      · rw [q]
        by_cases z : LR n k = LR n t2
        · exact .inl z
        · rcases bef_tot z with y | y
          · exact absurd y hn
          · exact .inr y
      · exact h3 t' (by omega) hg⟩
theorem RfI.take {f : Nat → Int} {n least k : Nat} {sum b : Int} (h : RfI f n sum least k b) (hg : GR f n sum least k) (hb : ∀ t : Nat, b = (t : Int) → bef (LR n k) (LR n t)) : RfI f n sum least (k + 1) (k : Int) := by
  refine .inr ⟨k, rfl, by omega, hg, fun t' ht hg' => ?_⟩
  by_cases q : t' = k
  · exact .inl (by rw [q])
  · rcases h with ⟨e, h⟩ | ⟨t2, e, h1, h2, h3⟩
    · exact absurd hg' (h t' (by omega))
    · have y := hb t2 e
      rcases h3 t' (by omega) hg' with z | z
      · exact .inr (by rw [z]; exact y)
      · exact .inr (bef_trans y z)
theorem RfI.done {f : Nat → Int} {n least : Nat} {sum b : Int} (h : RfI f n sum least (2 ^ n) b) : (b = -1 ∧ ∀ x, ¬ Fam f n sum least x) ∨ (∃ t : Nat, b = (t : Int) ∧ t < 2 ^ n ∧ IsFst (Fam f n sum least) (LR n t)) := by
  have all : ∀ x, Fam f n sum least x → ∃ t, t < 2 ^ n ∧ x = LR n t ∧ GR f n sum least t := fun x ⟨p, hx, hs, hl⟩ => by
    have e : ∀ i, i < n → bitR (ofB p n) i = p i := fun i hi => ofB_bit p n i hi
    have e2 : LR n (ofB p n) = ixs p n := ixs_congr e
    exact ⟨ofB p n, ofB_lt p n, by rw [hx, e2], by rw [smS_congr e]; exact hs, by rw [e2, ← hx]; exact hl⟩
  rcases h with ⟨e, h⟩ | ⟨t, e, h1, h2, h3⟩
  · exact .inl ⟨e, fun x hx => by
      obtain ⟨t, ht, _, hg⟩ := all x hx
      exact h t ht hg⟩
  · refine .inr ⟨t, e, h1, ⟨bitR t, rfl, h2.1, h2.2⟩, fun x hx => ?_⟩
    obtain ⟨t2, ht, rfl, hg⟩ := all x hx
    exact h3 t2 ht hg

set_option maxRecDepth 100000 in
set_option maxHeartbeats 16000000 in
theorem rFirst_any (ra : Option Addr) (n c : Nat) (f : Nat → Int) (sum : Int) (least : Nat) (w : World) (hr : IRow w ra n f) (hn : n ≤ 11) (hf : ∀ i, i < n → -1125899906842624 ≤ f i ∧ f i ≤ 1125899906842624) (hls : least ≤ 1) :
    Calls Tryd.prog 18 #[.slice ra n c, .int .i64 sum, .int .i64 (least : Int)] w fun e w' => Below w.heap.size w w' ∧ ∃ b, e = .returned (.int .i64 b) ∧ RfI f n sum least (2 ^ n) b := by
  have hN : 2 ^ n ≤ 2048 := Nat.le_trans (Nat.pow_le_pow_right (by decide) hn) (by decide)
  have h0 := Nat.two_pow_pos n
  have hc := p2_cast n
  have HR := Lib.hid hr
  have HF := Lib.hid hf
  have CI := fun t (ht : t < 9223372036854775808) W => Lib.hid (rInd_any ra n c t W (by omega) ht)
  have CS := fun t (ht : t < 9223372036854775808) W (hw : Below w.heap.size w W) => Lib.hid (rSum_any ra n c f t W (HR.out.on hw) (by omega) HF.out ht)
  have S0 : Hid (Below w.heap.size w w ∧ RfI f n sum least 0 (-1)) := ⟨Below.refl _ _, .inl ⟨rfl, fun t h => by omega⟩⟩
  have kn : IntKind.u64.wrap (n : Int) = (n : Int) := IntWalk.u64_in _ (by omega)
  generalize hM : 2 ^ n = M at *
  have e1 : IntKind.i64.wrap (2 ^ n) = (M : Int) := by rw [hc, IntWalk.i64_in _ (by omega)]
  clear hr hf hM hc
  go_enter Tryd.func18, Tryd.ntmps18
  go_wp2_with fail
  go_loopg [8, 7] M (fun g s8 s7 wx => ∃ (k : Nat) (b : Int), s8 = .int .i64 k ∧ s7 = .int .i64 b ∧ g = M - k ∧ k ≤ M ∧ Hid (Below w.heap.size w wx ∧ RfI f n sum least k b))
  case atStart => exact ⟨0, -1, rfl, rfl, rfl, Nat.zero_le _, S0⟩
  case round =>
    clear S0
    obtain ⟨k, b, rfl, rfl, rfl, hk, S⟩ := hrel
    rename World => W1
    by_cases hlt : k < M
    · have wk : IntKind.i64.wrap ((k : Int) + 1) = ((k + 1 : Nat) : Int) := by rw [IntWalk.i64_in _ (by omega)]; omega
      have CIk := fun W => CI k (by omega) W
      have CSk := fun W hw => CS k (by omega) W hw
      have hG : GR f n sum least k ↔ smS (bitR k) f n = sum ∧ least ≤ (LR n k).length := Iff.rfl
      have hbf : ∀ t, bef (LR n k) (LR n t) ↔ (LR n k).length < (LR n t).length ∨ (LR n k).length = (LR n t).length ∧ earl (LR n k) (LR n t) = true := fun t => Iff.rfl
      have hk16 := LR_le n k
      have HS := Lib.hid S.out.2
      have HB := Lib.hid S.out.1
      clear S
      rw [show ixs (bitR k) n = LR n k from rfl] at CIk
      have HGB := Lib.hid (And.intro hG hbf)
      clear hG hbf
      obtain ⟨sm, hsm⟩ : ∃ x, smS (bitR k) f n = x := ⟨_, rfl⟩
      rw [hsm] at CSk HGB
      obtain ⟨lk, hlk⟩ : ∃ x, LR n k = x := ⟨_, rfl⟩
      rw [hlk] at CIk HGB hk16
      have HLK := Lib.hid hlk
      clear hsm hlk
      by_cases c1 : lk.length < least
      · have q1 : decide (lk.length < least) = true := decide_eq_true (by omega)
        have T : Hid (RfI f n sum least (k + 1) b) := HS.out.skip (fun h => by have := (HGB.out.1.1 h).2; omega)
        clear HS HGB
        go_wp2_with (go_at_call 17; (with_reducible refine (((CIk _).out).mono ?_)); rintro e w2 ⟨hb2, xa, xc, rfl, hown⟩; have HB2 := Lib.hid (below_on HB.out hb2))
        go_roundg (M - (k + 1))
        case measure => omega
        case rel => exact ⟨k + 1, b, rfl, rfl, rfl, by omega, HB2.out, T.out⟩
      · have q1 : decide ((lk.length : Int) < (least : Int)) = false := decide_eq_false (by omega)
        by_cases c2 : sm = sum
        · have q2 : (sm != sum) = false := by simp [c2]
          have HG : Hid (GR f n sum least k) := HGB.out.1.2 ⟨c2, by omega⟩
          clear c2
          have hbb := HS.out
          by_cases c3 : b = -1
          · subst c3
            have T : Hid (RfI f n sum least (k + 1) (k : Int)) := HS.out.take HG.out (fun t h => by omega)
            clear HS HGB hbb
            go_wp2_with (first
              | (go_at_call 17; (with_reducible refine (((CIk _).out).mono ?_)); rintro e w2 ⟨hb2, xa, xc, rfl, hown⟩; have HB2 := Lib.hid (below_on HB.out hb2))
              | (go_at_call 48; (with_reducible refine (((CSk _ HB2.out).out).mono ?_)); rintro e w3 ⟨rfl, rfl⟩))
            go_roundg (M - (k + 1))
            case measure => omega
            case rel => exact ⟨k + 1, k, rfl, rfl, rfl, by omega, HB2.out, T.out⟩
          · obtain ⟨t, rfl, htk⟩ : ∃ t : Nat, b = (t : Int) ∧ t < k := by
              rcases hbb with ⟨e, _⟩ | ⟨t, e, h, _⟩
              · exact absurd e c3
              · exact ⟨t, e, h⟩
            clear hbb c3
            have q3 : decide ((t : Int) < 0) = false := decide_eq_false (by omega)
            have CIt := fun W => CI t (by omega) W
            have HBF := Lib.hid (HGB.out.2 t)
            clear HGB
            have ht16 := LR_le n t
            rw [show ixs (bitR t) n = LR n t from rfl] at CIt
            have HTK := HS.out.take HG.out
            have HST := Lib.hid (HS.out.stay (t := t))
            have HTK := Lib.hid HTK
            rw [HLK.out] at HTK HST
            clear HS
            have HTK2 : Hid (bef lk (LR n t) → RfI f n sum least (k + 1) (k : Int)) := fun h => HTK.out (fun t2 e => by rw [show t2 = t by omega]; exact h)
            clear HTK
            obtain ⟨lt, hlt'⟩ : ∃ x, LR n t = x := ⟨_, rfl⟩
            rw [hlt'] at CIt HBF HTK2 HST ht16
            have CE := fun xa xc ya yc W h1 h2 => Lib.hid (Earlier_any xa xc lk ya yc lt W h1 h2 (by omega) (by omega))
            clear hlt'
            by_cases d1 : lk.length < lt.length
            · have q4 : decide (lk.length < lt.length) = true := decide_eq_true (by omega)
              have T : Hid (RfI f n sum least (k + 1) (k : Int)) := HTK2.out (HBF.out.2 (.inl d1))
              clear HTK2 HST HBF CE
              go_wp2_with (first
                | (go_at_call 17; (with_reducible refine (((CIk _).out).mono ?_)); rintro e w2 ⟨hb2, xa, xc, rfl, hown⟩; have HB := Lib.hid (below_on HB.out hb2))
                | (go_at_call 17; (with_reducible refine (((CIt _).out).mono ?_)); rintro e w2 ⟨hb2, ya, yc, rfl, hown2⟩; have HB := Lib.hid (below_on HB.out hb2))
                | (go_at_call 48; (with_reducible refine (((CSk _ HB.out).out).mono ?_)); rintro e w3 ⟨rfl, rfl⟩))
              go_roundg (M - (k + 1))
              case measure => omega
              case rel => exact ⟨k + 1, k, rfl, rfl, rfl, by omega, HB.out, T.out⟩
            · have q4 : decide ((lk.length : Int) < (lt.length : Int)) = false := decide_eq_false (by omega)
              by_cases d2 : lk.length = lt.length
              · have q5 : ((lk.length : Int) == (lt.length : Int)) = true := by simp; omega
                cases hE : earl lk lt with
                | true =>
                  rw [hE] at CE
                  have T : Hid (RfI f n sum least (k + 1) (k : Int)) := HTK2.out (HBF.out.2 (.inr ⟨d2, hE⟩))
                  clear HTK2 HST HBF d2 hE
                  go_wp2_with (first
                    | (go_at_call 17; (with_reducible refine (((CIk _).out).mono ?_)); rintro e w2 ⟨hb2, xa, xc, rfl, hown⟩; have HX := Lib.hid (own_idx hown); have HB := Lib.hid (below_on HB.out hb2))
                    | (go_at_call 17; (with_reducible refine (((CIt _).out).mono ?_)); rintro e w2 ⟨hb2, ya, yc, rfl, hown2⟩; have HY := Lib.hid (own_idx hown2); have HX := Lib.hid (HX.out.on hb2); have HB := Lib.hid (below_on HB.out hb2))
                    | (go_at_call 48; (with_reducible refine (((CSk _ HB.out).out).mono ?_)); rintro e w3 ⟨rfl, rfl⟩)
                    | (go_at_call 51; (with_reducible refine (((CE _ _ _ _ _ HX.out HY.out).out).mono ?_)); rintro e w3 ⟨rfl, hb3⟩; have HB := Lib.hid (below_on HB.out hb3)))
                  go_roundg (M - (k + 1))
                  case measure => omega
                  case rel => exact ⟨k + 1, k, rfl, rfl, rfl, by omega, HB.out, T.out⟩
                | false =>
                  rw [hE] at CE
                  have T : Hid (RfI f n sum least (k + 1) (t : Int)) := HST.out (fun h => by
                    rcases HBF.out.1 h with z | ⟨_, z⟩
                    · omega
                    · rw [hE] at z; cases z)
                  clear HTK2 HST HBF d2 hE
                  go_wp2_with (first
                    | (go_at_call 17; (with_reducible refine (((CIk _).out).mono ?_)); rintro e w2 ⟨hb2, xa, xc, rfl, hown⟩; have HX := Lib.hid (own_idx hown); have HB := Lib.hid (below_on HB.out hb2))
                    | (go_at_call 17; (with_reducible refine (((CIt _).out).mono ?_)); rintro e w2 ⟨hb2, ya, yc, rfl, hown2⟩; have HY := Lib.hid (own_idx hown2); have HX := Lib.hid (HX.out.on hb2); have HB := Lib.hid (below_on HB.out hb2))
                    | (go_at_call 48; (with_reducible refine (((CSk _ HB.out).out).mono ?_)); rintro e w3 ⟨rfl, rfl⟩)
                    | (go_at_call 51; (with_reducible refine (((CE _ _ _ _ _ HX.out HY.out).out).mono ?_)); rintro e w3 ⟨rfl, hb3⟩; have HB := Lib.hid (below_on HB.out hb3)))
                  go_roundg (M - (k + 1))
                  case measure => omega
                  case rel => exact ⟨k + 1, t, rfl, rfl, rfl, by omega, HB.out, T.out⟩
              · have q5 : ((lk.length : Int) == (lt.length : Int)) = false := by simp; omega
                have T : Hid (RfI f n sum least (k + 1) (t : Int)) := HST.out (fun h => by
                  rcases HBF.out.1 h with z | ⟨z, _⟩ <;> omega)
                clear HTK2 HST HBF d2 CE
                go_wp2_with (first
                  | (go_at_call 17; (with_reducible refine (((CIk _).out).mono ?_)); rintro e w2 ⟨hb2, xa, xc, rfl, hown⟩; have HB := Lib.hid (below_on HB.out hb2))
                  | (go_at_call 17; (with_reducible refine (((CIt _).out).mono ?_)); rintro e w2 ⟨hb2, ya, yc, rfl, hown2⟩; have HB := Lib.hid (below_on HB.out hb2))
                  | (go_at_call 48; (with_reducible refine (((CSk _ HB.out).out).mono ?_)); rintro e w3 ⟨rfl, rfl⟩))
                go_roundg (M - (k + 1))
                case measure => omega
                case rel => exact ⟨k + 1, t, rfl, rfl, rfl, by omega, HB.out, T.out⟩
        · have q2 : (sm != sum) = true := by simp [c2]
          have T : Hid (RfI f n sum least (k + 1) b) := HS.out.skip (fun h => c2 (HGB.out.1.1 h).1)
          clear HS HGB c2
          go_wp2_with (first
            | (go_at_call 17; (with_reducible refine (((CIk _).out).mono ?_)); rintro e w2 ⟨hb2, xa, xc, rfl, hown⟩; have HB2 := Lib.hid (below_on HB.out hb2))
            | (go_at_call 48; (with_reducible refine (((CSk _ HB2.out).out).mono ?_)); rintro e w3 ⟨rfl, rfl⟩))
          go_roundg (M - (k + 1))
          case measure => omega
          case rel => exact ⟨k + 1, b, rfl, rfl, rfl, by omega, HB2.out, T.out⟩
    · have e : k = M := by omega
      subst e
      go_wp2_with fail
      go_ret
      exact ⟨S.out.1, b, rfl, S.out.2⟩
end Go.Proofs.YtlgpckjhnohhhaaDoor
