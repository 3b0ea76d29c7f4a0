/- Layer 2: what strings.Cut and strconv.Atoi give of a text, in the form that Parse wants. -/
import Derived.Test.YtfcplndfoboaaaaDoorRParM
import Derived.Test.YtfcplndfoboaaaaDoorShelf
import Derived.Lib.AtoiAllCases
namespace Go.Proofs.YtfcplndfoboaaaaDoor
set_option linter.unusedVariables false
open Go.RowKit Go.Shelf

def atoO (l : List UInt8) : Option Int := match Lib.atoiAll l with | .ok v => some v | _ => none

theorem nvG_mono : ∀ (l : List UInt8) (a v : Nat), nvG l a = some v → a ≤ v
  | [], a, v, h => by unfold nvG at h; injection h with h; omega
  | c :: r, a, v, h => by
    unfold nvG at h
    split at h
    · have := nvG_mono r _ v h; omega
    · cases h
theorem nvG_parse : ∀ (l : List UInt8) (a v : Nat), nvG l a = some v → v < 18446744073709551616 → Lib.parseUint10 a l = .ok v
  | [], a, v, h, hv => by unfold nvG at h; injection h with h; subst h; rfl
  | c :: r, a, v, h, hv => by
    unfold nvG at h
    split at h
    · rename_i g
      have m := nvG_mono r _ v h
      have ih := nvG_parse r _ v h hv
      unfold Lib.parseUint10
      rw [if_pos g, if_neg (by omega), if_neg (by omega), show a * 10 + (c.toNat - 48) = 10 * a + (c.toNat - 48) by omega]
      exact ih
    · cases h
theorem mag_dec (n : Nat) (h : n < 18446744073709551616) : Lib.parseMag (Lib.decDigits n) = .ok n := by
  unfold Lib.parseMag
  rw [if_neg (fun e => by have := dec_pos n; rw [e] at this; simp at this)]
  exact nvG_parse _ 0 n (nvG_dec n) h
theorem atoO_itoa (n : Int) (h0 : -1152921504606846976 ≤ n) (h1 : n ≤ 1152921504606846976) : atoO (Lib.itoa n) = some n := by
  unfold atoO Lib.itoa
  by_cases g : n < 0
  · rw [if_pos g, Lib.atoiAll_minus, mag_dec _ (by omega)]
    simp only [Lib.signed]
    rw [if_neg (by omega)]
    show some (-(n.natAbs : Int)) = some n
    congr 1; omega
  · rw [if_neg g]
    have hm := mag_dec n.toNat (by omega)
    cases hd : Lib.decDigits n.toNat with
    | nil => have := dec_pos n.toNat; rw [hd] at this; simp at this
    | cons c r =>
      have q := dec_dig n.toNat c (by rw [hd]; simp)
      rw [hd] at hm
      rw [Lib.atoiAll_plain c r (by omega) (by omega), hm]
      simp only [Lib.signless]
      rw [if_neg (by omega)]
      show some ((n.toNat : Nat) : Int) = some n
      congr 1; omega

theorem index_miss : ∀ (l : List UInt8), (∀ c ∈ l, (c != 47) = true) → Lib.index l [47] = -1
  | [], _ => rfl
  | c :: r, h => by
    unfold Lib.index
    have hc := h c (by simp)
    have e : List.isPrefixOf [47] (c :: r) = false := by
      simp [List.isPrefixOf]
      intro e; subst e; simp at hc
    rw [e, index_miss r (fun x hx => h x (by simp [hx]))]
    rfl
theorem index_hit : ∀ (l r : List UInt8), (∀ c ∈ l, (c != 47) = true) → Lib.index (l ++ 47 :: r) [47] = l.length
  | [], r, _ => by unfold Lib.index; simp [List.isPrefixOf]
  | c :: l, r, h => by
    rw [List.cons_append]
    unfold Lib.index
    have hc := h c (by simp)
    have e : List.isPrefixOf [47] (c :: (l ++ 47 :: r)) = false := by
      simp [List.isPrefixOf]
      intro e; subst e; simp at hc
    rw [e, index_hit l r (fun x hx => h x (by simp [hx]))]
    have e2 : (((l.length : Nat) : Int) == -1) = false := by simp
    rw [e2]
    simp
theorem cut_miss (l : List UInt8) (h : ∀ c ∈ l, (c != 47) = true) : Lib.cut l [47] = (l, [], false) := by
  unfold Lib.cut; rw [index_miss l h, if_neg (by decide)]
theorem cut_hit (l r : List UInt8) (h : ∀ c ∈ l, (c != 47) = true) : Lib.cut (l ++ 47 :: r) [47] = (l, r, true) := by
  unfold Lib.cut; rw [index_hit l r h, if_pos (by omega)]
  simp
theorem cutS_len (s : List UInt8) : (Lib.cut s [47]).1.length ≤ s.length ∧ (Lib.cut s [47]).2.1.length ≤ s.length := by
  unfold Lib.cut
  split
  · exact ⟨by rw [List.length_take]; omega, by rw [List.length_drop]; omega⟩
  · exact ⟨Nat.le_refl _, Nat.zero_le _⟩
theorem atoO_bounds {l : List UInt8} {v : Int} (h : atoO l = some v) : -9223372036854775808 ≤ v ∧ v ≤ 9223372036854775807 := by
  unfold atoO at h
  split at h
  · rename_i e; injection h with h; subst h; exact Lib.atoiAll_bounds e
  · cases h
theorem itoa_ne (n : Int) : ∀ c ∈ Lib.itoa n, (c != 47) = true := by
  intro c hc
  unfold Lib.itoa at hc
  split at hc
  · rcases List.mem_cons.1 hc with rfl | hc
    · decide
    · exact dec_ne _ 47 (.inl (by decide)) c hc
  · exact dec_ne _ 47 (.inl (by decide)) c hc

def botS (v : List UInt8) (q : Bool) : List UInt8 := if q = true then v else [49]
def parC (s : List UInt8) : Int × Int × Int :=
  match atoO (Lib.cut s [47]).1, atoO (botS (Lib.cut s [47]).2.1 (Lib.cut s [47]).2.2) with
  | some n, some d => if vB n d = true ∧ txt n d = s then (n, d, 0) else (0, 0, 7)
  | _, _ => (0, 0, 7)
/-- What Parse returns of a text. -/
def parE (s : List UInt8) : Int × Int × Int := match parP s with | some (n, d) => (n, d, 0) | none => (0, 0, 7)
theorem parC_eq (s : List UInt8) : parC s = parE s := by
  unfold parE
  cases hp : parP s with
  | none =>
    show parC s = (0, 0, 7)
    unfold parC
    split
    · split
      · rename_i g
        exact absurd g.2 (parP_none hp (vB_vld g.1))
      · rfl
    · rfl
  | some x =>
    obtain ⟨n, d⟩ := x
    obtain ⟨v, e⟩ := parP_some hp
    show parC s = (n, d, 0)
    have v1 := v.d1; have v2 := v.d2; have v3 := v.n1; have v4 := v.n2
    have a1 := atoO_itoa n (by omega) (by omega)
    have a2 := atoO_itoa d (by omega) (by omega)
    have hc : ∃ b q, Lib.cut s [47] = (Lib.itoa n, b, q) ∧ atoO (botS b q) = some d := by
      rw [← e]
      unfold txt
      by_cases h : d = 1
      · rw [if_pos h, cut_miss _ (itoa_ne n)]
        exact ⟨_, _, rfl, by subst h; decide⟩
      · rw [if_neg h, cut_hit _ _ (itoa_ne n)]
        exact ⟨_, _, rfl, a2⟩
    obtain ⟨b, q, h1, h2⟩ := hc
    unfold parC
    rw [h1]
    simp only [a1, h2]
    rw [if_pos ⟨vB_yes v, e⟩]

/-- The library's variables that Parse meets are laid. -/
def EnvC (w : World) : Prop := (∃ m, w.cell? ⟨Tryd.lays145_ren.g 1, 0, none⟩ = some (.int .i64 m)) ∧ (∃ t p, w.cell? ⟨Tryd.laysC172_ren.g 15, 0, none⟩ = some (.iface t p)) ∧ (∃ t p, w.cell? ⟨Tryd.laysC172_ren.g 16, 0, none⟩ = some (.iface t p))
theorem EnvC.on {w W : World} (h : EnvC w) (hb : Below w.heap.size w W) : EnvC W := by
  obtain ⟨⟨m, h1⟩, ⟨t, p, h2⟩, ⟨t2, p2, h3⟩⟩ := h
  exact ⟨⟨m, (hb.cell (p := ⟨_, 0, none⟩) (Lib.lt_of_cell h1)).trans h1⟩, ⟨t, p, (hb.cell (p := ⟨_, 0, none⟩) (Lib.lt_of_cell h2)).trans h2⟩, ⟨t2, p2, (hb.cell (p := ⟨_, 0, none⟩) (Lib.lt_of_cell h3)).trans h3⟩⟩

theorem Cut_any (s : ByteArray) (hs : s.size ≤ 200) (u v : List UInt8) (q : Bool) (h : Lib.cut s.data.toList [47] = (u, v, q)) (w : World) (hE : EnvC w) :
    Calls Tryd.prog 28 #[.string s, .string ⟨#[47]⟩] w fun e w' => e = .returned (.tuple #[.string ⟨u.toArray⟩, .string ⟨v.toArray⟩, .bool q]) ∧ Below w.heap.size w w' := by
  obtain ⟨m, hm⟩ := hE.1
  refine (Tryd.strings_Cut s ⟨#[47]⟩ m w (by omega) hm).mono ?_
  rintro e w' ⟨rfl, n, rfl⟩
  rw [show (⟨#[47]⟩ : ByteArray).data.toList = [47] from rfl, h]
  exact ⟨rfl, below_drew (Below.refl _ _) _⟩
theorem Atoi_yes (s : ByteArray) (hs : s.size ≤ 200) (v : Int) (h : atoO s.data.toList = some v) (w : World) :
    Calls Tryd.prog 29 #[.string s] w fun e w' => e = .returned (.tuple #[.int .i64 v, .nilIface]) ∧ Below w.heap.size w w' := by
  have h2 : Lib.atoiAll s.data.toList = .ok v := by
    unfold atoO at h
    split at h
    · rename_i e; injection h with h; rw [e, h]
    · cases h
  refine (Tryd.strconv_Atoi_ok s (by omega) v h2 w).mono ?_
  rintro e w' ⟨rfl, rfl | ⟨t, rfl⟩⟩
  · exact ⟨rfl, Below.refl _ _⟩
  · exact ⟨rfl, Lib.bytesWorld_below _ _ _⟩
theorem Atoi_no (s : ByteArray) (hs : s.size ≤ 200) (h : atoO s.data.toList = none) (w : World) (hE : EnvC w) :
    Calls Tryd.prog 29 #[.string s] w fun e w' => ∃ (v : Int) (N : Nat), e = .returned (.tuple #[.int .i64 v, .iface (Tryd.laysC172_ren.t 168) (.pointer (some ⟨N, 0, none⟩))]) ∧ Below w.heap.size w w' := by
  obtain ⟨_, ⟨t, p, h2⟩, ⟨t2, p2, h3⟩⟩ := hE
  cases hA : Lib.atoiAll s.data.toList
  · rename_i v
    unfold atoO at h
    rw [hA] at h
    cases h
  · refine (Any.strconv_Atoi_syntax Tryd.laysC172 s (by omega) hA _ w h2 (.inr ⟨_, _, rfl⟩)).mono ?_
    rintro e w' ⟨N, rfl, _, _, hb⟩
    exact ⟨0, N, rfl, hb⟩
  · refine (Any.strconv_Atoi_range Tryd.laysC172 s (by omega) hA _ w h3 (.inr ⟨_, _, rfl⟩)).mono ?_
    rintro e w' ⟨N, rfl, _, _, hb⟩
    exact ⟨_, N, rfl, hb⟩

end Go.Proofs.YtfcplndfoboaaaaDoor
