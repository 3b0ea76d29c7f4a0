/- Layer 2: the fraction that a text is read as: the valid one that has this text, or none. -/
import Derived.Test.YtfcplndfoboaaaaDoorRNumM
import Derived.Test.YtfcplndfoboaaaaDoorRDiv2
import Derived.Test.YtfcplndfoboaaaaDoorShelf
import Derived.Lib.AtoiAllCases
namespace Go.Proofs.YtfcplndfoboaaaaDoor
set_option linter.unusedVariables false

/-- Where the first slash stands, or the length. -/
def slashAt (t : List UInt8) : Nat := (t.takeWhile fun c => c != 47).length
def restS (s : List UInt8) : List UInt8 := if s.head? = some 45 then s.tail else s
def numP (s : List UInt8) : Int × Bool := numT ((restS s).take (slashAt (restS s)))
def denP (s : List UInt8) : Int × Bool := if slashAt (restS s) < (restS s).length then numT ((restS s).drop (slashAt (restS s) + 1)) else (1, true)
def signP (s : List UInt8) : Int := if s.head? = some 45 then 0 - (numP s).1 else (numP s).1
def parP (s : List UInt8) : Option (Int × Int) :=
  if (numP s).2 = true ∧ (denP s).2 = true ∧ vB (signP s) (denP s).1 = true ∧ txt (signP s) (denP s).1 = s then some (signP s, (denP s).1) else none

theorem parP_some {s : List UInt8} {n d : Int} (h : parP s = some (n, d)) : Vld n d ∧ txt n d = s := by
  unfold parP at h
  split at h
  · rename_i g
    injection h with h
    injection h with h1 h2
    subst h1; subst h2
    exact ⟨vB_vld g.2.2.1, g.2.2.2⟩
  · cases h
theorem dec_dig : ∀ (n : Nat), ∀ c ∈ Lib.decDigits n, 48 ≤ c.toNat ∧ c.toNat ≤ 57 := by
  intro n
  induction n using Nat.strongRecOn with
  | ind n ih =>
    intro c hc
    rw [Lib.decDigits] at hc
    split at hc
    · rename_i h
      rw [List.mem_singleton.1 hc, dig_nat h]; omega
    · rcases List.mem_append.1 hc with hc | hc
      · exact ih (n / 10) (by omega) c hc
      · rw [List.mem_singleton.1 hc, dig_nat (by omega)]; omega
theorem dec_ne (n : Nat) (x : UInt8) (hx : x.toNat < 48 ∨ 57 < x.toNat) : ∀ c ∈ Lib.decDigits n, (c != x) = true := by
  intro c hc
  have := dec_dig n c hc
  simp
  rintro rfl
  omega
theorem take_all {p : UInt8 → Bool} : ∀ (l : List UInt8), (∀ c ∈ l, p c = true) → l.takeWhile p = l
  | [], _ => rfl
  | c :: r, h => by
    rw [List.takeWhile_cons, if_pos (h c (by simp)), take_all r (fun x hx => h x (by simp [hx]))]
theorem take_stop {p : UInt8 → Bool} : ∀ (l : List UInt8) (x : UInt8) (r : List UInt8), (∀ c ∈ l, p c = true) → p x = false → (l ++ x :: r).takeWhile p = l
  | [], x, r, _, hx => by rw [List.nil_append, List.takeWhile_cons, if_neg (by simp [hx])]
  | c :: l, x, r, h, hx => by
    rw [List.cons_append, List.takeWhile_cons, if_pos (h c (by simp)), take_stop l x r (fun y hy => h y (by simp [hy])) hx]
theorem dec_head (n : Nat) (r : List UInt8) : (Lib.decDigits n ++ r).head? ≠ some 45 := by
  intro h
  cases hd : Lib.decDigits n with
  | nil => have := dec_pos n; rw [hd] at this; simp at this
  | cons c q =>
    rw [hd] at h
    simp at h
    have := dec_dig n c (by rw [hd]; simp)
    rw [h] at this
    exact absurd this.1 (by decide)
/-- The text without its sign. -/
def bodyT (n d : Int) : List UInt8 := if d = 1 then Lib.decDigits n.natAbs else Lib.decDigits n.natAbs ++ 47 :: Lib.decDigits d.natAbs
theorem txt_body {n d : Int} (hd : 1 ≤ d) : txt n d = if n < 0 then 45 :: bodyT n d else bodyT n d := by
  have e2 : Lib.itoa d = Lib.decDigits d.natAbs := by
    unfold Lib.itoa
    rw [if_neg (by omega), show d.toNat = d.natAbs by omega]
  unfold txt bodyT
  rw [e2]
  by_cases h : n < 0
  · rw [if_pos h, show Lib.itoa n = 45 :: Lib.decDigits n.natAbs by unfold Lib.itoa; rw [if_pos h]]
    split <;> rfl
  · rw [if_neg h, show Lib.itoa n = Lib.decDigits n.natAbs by unfold Lib.itoa; rw [if_neg h, show n.toNat = n.natAbs by omega]]
theorem rest_txt {n d : Int} (hd : 1 ≤ d) : restS (txt n d) = bodyT n d := by
  rw [txt_body hd]
  by_cases h : n < 0
  · rw [if_pos h]; rfl
  · rw [if_neg h]
    unfold restS
    rw [if_neg]
    unfold bodyT
    split
    · have := dec_head n.natAbs []; rwa [List.append_nil] at this
    · exact dec_head _ _
theorem head_txt {n d : Int} (hd : 1 ≤ d) : (txt n d).head? = some 45 ↔ n < 0 := by
  rw [txt_body hd]
  by_cases h : n < 0
  · rw [if_pos h]; simp [h]
  · rw [if_neg h]
    refine ⟨fun g => absurd g ?_, fun g => absurd g h⟩
    unfold bodyT
    split
    · have := dec_head n.natAbs []; rwa [List.append_nil] at this
    · exact dec_head _ _
theorem slash_body (n d : Int) : slashAt (bodyT n d) = (Lib.decDigits n.natAbs).length := by
  unfold slashAt bodyT
  split
  · rw [take_all _ (dec_ne _ 47 (.inl (by decide)))]
  · rw [take_stop _ _ _ (dec_ne _ 47 (.inl (by decide))) (by decide)]
/-- The text of a valid fraction is read as this fraction. -/
theorem parP_txt {n d : Int} (v : Vld n d) : parP (txt n d) = some (n, d) := by
  have v1 := v.d1; have v2 := v.d2; have v3 := v.n1; have v4 := v.n2
  have a : numP (txt n d) = ((n.natAbs : Int), true) := by
    unfold numP
    rw [rest_txt v1, slash_body]
    have e : (bodyT n d).take (Lib.decDigits n.natAbs).length = Lib.decDigits n.natAbs := by
      unfold bodyT
      split
      · exact List.take_length
      · exact List.take_left
    rw [e]
    exact num_dec _ (by omega)
  have b : denP (txt n d) = (d, true) := by
    unfold denP
    rw [rest_txt v1, slash_body]
    by_cases h : d = 1
    · subst h
      rw [if_neg (by unfold bodyT; rw [if_pos rfl]; omega)]
    · have e : bodyT n d = Lib.decDigits n.natAbs ++ 47 :: Lib.decDigits d.natAbs := if_neg h
      rw [e, if_pos (by rw [List.length_append, List.length_cons]; omega)]
      rw [show (Lib.decDigits n.natAbs ++ 47 :: Lib.decDigits d.natAbs).drop ((Lib.decDigits n.natAbs).length + 1) = Lib.decDigits d.natAbs by simp]
      rw [num_dec _ (by omega), show ((d.natAbs : Nat) : Int) = d by omega]
  have c : signP (txt n d) = n := by
    unfold signP
    rw [a]
    by_cases h : n < 0
    · rw [if_pos ((head_txt v1).2 h)]; show 0 - (n.natAbs : Int) = n; omega
    · rw [if_neg (fun g => h ((head_txt v1).1 g))]; show (n.natAbs : Int) = n; omega
  unfold parP
  rw [a, b, c, if_pos ⟨rfl, rfl, vB_yes v, rfl⟩]
/-- No valid fraction has a text that is not read. -/
theorem parP_none {s : List UInt8} (h : parP s = none) {n d : Int} (v : Vld n d) : txt n d ≠ s := by
  rintro rfl
  rw [parP_txt v] at h
  cases h

theorem slash_le (t : List UInt8) : slashAt t ≤ t.length := by
  unfold slashAt
  exact List.Sublist.length_le (List.takeWhile_sublist _)
theorem slash_before : ∀ (t : List UInt8) (i : Nat), i < slashAt t → ∀ c, t[i]? = some c → c ≠ 47
  | [], i, h, c, hc => by simp at hc
  | x :: r, i, h, c, hc => by
    unfold slashAt at h
    rw [List.takeWhile_cons] at h
    split at h
    · rename_i g
      cases i with
      | zero => simp at hc; subst hc; simpa using g
      | succ i => exact slash_before r i (by unfold slashAt; simpa using h) c (by simpa using hc)
    · simp at h
theorem slash_at : ∀ (t : List UInt8), ∀ c, t[slashAt t]? = some c → c = 47
  | [], c, hc => by simp at hc
  | x :: r, c, hc => by
    unfold slashAt at hc
    rw [List.takeWhile_cons] at hc
    split at hc
    · exact slash_at r c (by unfold slashAt; simpa using hc)
    · rename_i g
      simp at hc
      subst hc
      simpa using g


open Go.RowKit Go.Shelf

def atoO (l : List UInt8) : Option Int := match Lib.atoiAll l with | .ok v => some v | _ => none

theorem nvG_mono : ∀ (l : List UInt8) (a v : Nat), nvG l a = some v → a ≤ v
  | [], a, v, h => by unfold nvG at h; injection h with h; omega
  | c :: r, a, v, h => by
    unfold nvG at h
    split at h
    · have := nvG_mono r _ v h; omega
    · cases h
theorem nvG_parse : ∀ (l : List UInt8) (a v : Nat), nvG l a = some v → v < 18446744073709551616 → Lib.parseUint10 a l = .ok v
  | [], a, v, h, hv => by unfold nvG at h; injection h with h; subst h; rfl
  | c :: r, a, v, h, hv => by
    unfold nvG at h
    split at h
    · rename_i g
      have m := nvG_mono r _ v h
      have ih := nvG_parse r _ v h hv
      unfold Lib.parseUint10
      rw [if_pos g, if_neg (by omega), if_neg (by omega), show a * 10 + (c.toNat - 48) = 10 * a + (c.toNat - 48) by omega]
      exact ih
    · cases h
theorem mag_dec (n : Nat) (h : n < 18446744073709551616) : Lib.parseMag (Lib.decDigits n) = .ok n := by
  unfold Lib.parseMag
  rw [if_neg (fun e => by have := dec_pos n; rw [e] at this; simp at this)]
  exact nvG_parse _ 0 n (nvG_dec n) h
theorem atoO_itoa (n : Int) (h0 : -1152921504606846976 ≤ n) (h1 : n ≤ 1152921504606846976) : atoO (Lib.itoa n) = some n := by
  unfold atoO Lib.itoa
  by_cases g : n < 0
  · rw [if_pos g, Lib.atoiAll_minus, mag_dec _ (by omega)]
    simp only [Lib.signed]
    rw [if_neg (by omega)]
    show some (-(n.natAbs : Int)) = some n
    congr 1; omega
  · rw [if_neg g]
    have hm := mag_dec n.toNat (by omega)
    cases hd : Lib.decDigits n.toNat with
    | nil => have := dec_pos n.toNat; rw [hd] at this; simp at this
    | cons c r =>
      have q := dec_dig n.toNat c (by rw [hd]; simp)
      rw [hd] at hm
      rw [Lib.atoiAll_plain c r (by omega) (by omega), hm]
      simp only [Lib.signless]
      rw [if_neg (by omega)]
      show some ((n.toNat : Nat) : Int) = some n
      congr 1; omega

theorem index_miss : ∀ (l : List UInt8), (∀ c ∈ l, (c != 47) = true) → Lib.index l [47] = -1
  | [], _ => rfl
  | c :: r, h => by
    unfold Lib.index
    have hc := h c (by simp)
    have e : List.isPrefixOf [47] (c :: r) = false := by
      simp [List.isPrefixOf]
      intro e; subst e; simp at hc
    rw [e, index_miss r (fun x hx => h x (by simp [hx]))]
    rfl
theorem index_hit : ∀ (l r : List UInt8), (∀ c ∈ l, (c != 47) = true) → Lib.index (l ++ 47 :: r) [47] = l.length
  | [], r, _ => by unfold Lib.index; simp [List.isPrefixOf]
  | c :: l, r, h => by
    rw [List.cons_append]
    unfold Lib.index
    have hc := h c (by simp)
    have e : List.isPrefixOf [47] (c :: (l ++ 47 :: r)) = false := by
      simp [List.isPrefixOf]
      intro e; subst e; simp at hc
    rw [e, index_hit l r (fun x hx => h x (by simp [hx]))]
    have e2 : (((l.length : Nat) : Int) == -1) = false := by simp
    rw [e2]
    simp
theorem cut_miss (l : List UInt8) (h : ∀ c ∈ l, (c != 47) = true) : Lib.cut l [47] = (l, [], false) := by
  unfold Lib.cut; rw [index_miss l h, if_neg (by decide)]
theorem cut_hit (l r : List UInt8) (h : ∀ c ∈ l, (c != 47) = true) : Lib.cut (l ++ 47 :: r) [47] = (l, r, true) := by
  unfold Lib.cut; rw [index_hit l r h, if_pos (by omega)]
  simp
theorem cutS_len (s : List UInt8) : (Lib.cut s [47]).1.length ≤ s.length ∧ (Lib.cut s [47]).2.1.length ≤ s.length := by
  unfold Lib.cut
  split
  · exact ⟨by rw [List.length_take]; omega, by rw [List.length_drop]; omega⟩
  · exact ⟨Nat.le_refl _, Nat.zero_le _⟩
theorem atoO_bounds {l : List UInt8} {v : Int} (h : atoO l = some v) : -9223372036854775808 ≤ v ∧ v ≤ 9223372036854775807 := by
  unfold atoO at h
  split at h
  · rename_i e; injection h with h; subst h; exact Lib.atoiAll_bounds e
  · cases h
theorem itoa_ne (n : Int) : ∀ c ∈ Lib.itoa n, (c != 47) = true := by
  intro c hc
  unfold Lib.itoa at hc
  split at hc
  · rcases List.mem_cons.1 hc with rfl | hc
    · decide
    · exact dec_ne _ 47 (.inl (by decide)) c hc
  · exact dec_ne _ 47 (.inl (by decide)) c hc

def botS (v : List UInt8) (q : Bool) : List UInt8 := if q = true then v else [49]
def parC (s : List UInt8) : Int × Int × Int :=
  match atoO (Lib.cut s [47]).1, atoO (botS (Lib.cut s [47]).2.1 (Lib.cut s [47]).2.2) with
  | some n, some d => if vB n d = true ∧ txt n d = s then (n, d, 0) else (0, 0, 7)
  | _, _ => (0, 0, 7)
/-- What Parse returns of a text. -/
def parE (s : List UInt8) : Int × Int × Int := match parP s with | some (n, d) => (n, d, 0) | none => (0, 0, 7)
theorem parC_eq (s : List UInt8) : parC s = parE s := by
  unfold parE
  cases hp : parP s with
  | none =>
    show parC s = (0, 0, 7)
    unfold parC
    split
    · split
      · rename_i g
        exact absurd g.2 (parP_none hp (vB_vld g.1))
      · rfl
    · rfl
  | some x =>
    obtain ⟨n, d⟩ := x
    obtain ⟨v, e⟩ := parP_some hp
    show parC s = (n, d, 0)
    have v1 := v.d1; have v2 := v.d2; have v3 := v.n1; have v4 := v.n2
    have a1 := atoO_itoa n (by omega) (by omega)
    have a2 := atoO_itoa d (by omega) (by omega)
    have hc : ∃ b q, Lib.cut s [47] = (Lib.itoa n, b, q) ∧ atoO (botS b q) = some d := by
      rw [← e]
      unfold txt
      by_cases h : d = 1
      · rw [if_pos h, cut_miss _ (itoa_ne n)]
        exact ⟨_, _, rfl, by subst h; decide⟩
      · rw [if_neg h, cut_hit _ _ (itoa_ne n)]
        exact ⟨_, _, rfl, a2⟩
    obtain ⟨b, q, h1, h2⟩ := hc
    unfold parC
    rw [h1]
    simp only [a1, h2]
    rw [if_pos ⟨vB_yes v, e⟩]

/-- The library's variables that Parse meets are laid. -/
def EnvC (w : World) : Prop := (∃ m, w.cell? ⟨Tryd.lays145_ren.g 1, 0, none⟩ = some (.int .i64 m)) ∧ (∃ t p, w.cell? ⟨Tryd.laysC172_ren.g 15, 0, none⟩ = some (.iface t p)) ∧ (∃ t p, w.cell? ⟨Tryd.laysC172_ren.g 16, 0, none⟩ = some (.iface t p))
theorem EnvC.on {w W : World} (h : EnvC w) (hb : Below w.heap.size w W) : EnvC W := by
  obtain ⟨⟨m, h1⟩, ⟨t, p, h2⟩, ⟨t2, p2, h3⟩⟩ := h
  exact ⟨⟨m, (hb.cell (p := ⟨_, 0, none⟩) (Lib.lt_of_cell h1)).trans h1⟩, ⟨t, p, (hb.cell (p := ⟨_, 0, none⟩) (Lib.lt_of_cell h2)).trans h2⟩, ⟨t2, p2, (hb.cell (p := ⟨_, 0, none⟩) (Lib.lt_of_cell h3)).trans h3⟩⟩

theorem Cut_any (s : ByteArray) (hs : s.size ≤ 200) (u v : List UInt8) (q : Bool) (h : Lib.cut s.data.toList [47] = (u, v, q)) (w : World) (hE : EnvC w) :
    Calls Tryd.prog 28 #[.string s, .string ⟨#[47]⟩] w fun e w' => e = .returned (.tuple #[.string ⟨u.toArray⟩, .string ⟨v.toArray⟩, .bool q]) ∧ Below w.heap.size w w' := by
  obtain ⟨m, hm⟩ := hE.1
  refine (Tryd.strings_Cut s ⟨#[47]⟩ m w (by omega) hm).mono ?_
  rintro e w' ⟨rfl, n, rfl⟩
  rw [show (⟨#[47]⟩ : ByteArray).data.toList = [47] from rfl, h]
  exact ⟨rfl, below_drew (Below.refl _ _) _⟩
theorem Atoi_yes (s : ByteArray) (hs : s.size ≤ 200) (v : Int) (h : atoO s.data.toList = some v) (w : World) :
    Calls Tryd.prog 29 #[.string s] w fun e w' => e = .returned (.tuple #[.int .i64 v, .nilIface]) ∧ Below w.heap.size w w' := by
  have h2 : Lib.atoiAll s.data.toList = .ok v := by
    unfold atoO at h
    split at h
    · rename_i e; injection h with h; rw [e, h]
    · cases h
  refine (Tryd.strconv_Atoi_ok s (by omega) v h2 w).mono ?_
  rintro e w' ⟨rfl, rfl | ⟨t, rfl⟩⟩
  · exact ⟨rfl, Below.refl _ _⟩
  · exact ⟨rfl, Lib.bytesWorld_below _ _ _⟩
theorem Atoi_no (s : ByteArray) (hs : s.size ≤ 200) (h : atoO s.data.toList = none) (w : World) (hE : EnvC w) :
    Calls Tryd.prog 29 #[.string s] w fun e w' => ∃ (v : Int) (N : Nat), e = .returned (.tuple #[.int .i64 v, .iface (Tryd.laysC172_ren.t 168) (.pointer (some ⟨N, 0, none⟩))]) ∧ Below w.heap.size w w' := by
  obtain ⟨_, ⟨t, p, h2⟩, ⟨t2, p2, h3⟩⟩ := hE
  cases hA : Lib.atoiAll s.data.toList
  · rename_i v
    unfold atoO at h
    rw [hA] at h
    cases h
  · refine (Any.strconv_Atoi_syntax Tryd.laysC172 s (by omega) hA _ w h2 (.inr ⟨_, _, rfl⟩)).mono ?_
    rintro e w' ⟨N, rfl, _, _, hb⟩
    exact ⟨0, N, rfl, hb⟩
  · refine (Any.strconv_Atoi_range Tryd.laysC172 s (by omega) hA _ w h3 (.inr ⟨_, _, rfl⟩)).mono ?_
    rintro e w' ⟨N, rfl, _, _, hb⟩
    exact ⟨_, N, rfl, hb⟩

end Go.Proofs.YtfcplndfoboaaaaDoor
