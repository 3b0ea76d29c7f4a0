/- Layer 10: package reeving: lines and the words of a rope. -/
import Derived.Test.YtcghjjfpjiacfaaDoorKP2
import Derived.Laws.Rows
namespace Go.Proofs.YtcghjjfpjiacfaaDoor
open Go.ChangeShapes Go.WideShapes Go.ChangeAt Go.RowKit Go.Joins Go.Deep Go.Shelf
set_option linter.unusedVariables false

/-- A string of bytes. -/
def bsS (l : List UInt8) : ByteArray := ⟨l.toArray⟩
theorem bsS_list (l : List UInt8) : (bsS l).data.toList = l := by unfold bsS; simp
theorem bsS_size (l : List UInt8) : (bsS l).size = l.length := by
  rw [← bsS_list l]
  show _ = (bsS l).data.toList.length
  rw [bsS_list]
  show (bsS l).data.size = _
  rw [← Array.length_toList, bsS_list]
/-- A line. -/
def lnT (ws : List (List UInt8)) : List UInt8 := Lib.join ws [32] ++ [10]
theorem lens_le {c : Nat} : ∀ (ws : List (List UInt8)), (∀ x ∈ ws, x.length ≤ c) → Lib.lens ws ≤ c * ws.length
  | [], _ => by simp [Lib.lens]
  | x :: r, h => by
    have ih := lens_le r (fun y hy => h y (by simp [hy]))
    have := h x (by simp)
    have e : Lib.lens (x :: r) = x.length + Lib.lens r := by simp [Lib.lens]
    have e2 : c * (x :: r).length = c * r.length + c := by rw [List.length_cons, Nat.mul_add, Nat.mul_one]
    omega
theorem lnT_len {c : Nat} (ws : List (List UInt8)) (h : ∀ x ∈ ws, x.length ≤ c) : (lnT ws).length ≤ (c + 1) * ws.length + 1 := by
  unfold lnT
  cases ws with
  | nil => simp [Lib.join_nil]
  | cons x r =>
    have h1 := Lib.join_length x r [32]
    have h2 := lens_le (x :: r) h
    rw [List.length_append, h1]
    have e2 : (c + 1) * (x :: r).length = c * (x :: r).length + (x :: r).length := by rw [Nat.add_mul, Nat.one_mul]
    simp only [List.length_cons, List.length_nil] at *
    omega
theorem str_eta (x : ByteArray) : (⟨x.data.toList.toArray⟩ : ByteArray) = x := by simp
set_option maxHeartbeats 2000000 in
theorem lineOf_any (ra : Option Addr) (n c : Nat) (f : Nat → ByteArray) (w : World) (hl : StrL w ra n f) (hn0 : 0 < n) (hn : n ≤ 1000) (hc : n ≤ c) (hs : ∀ i, i < n → (f i).size ≤ 100) (l : List UInt8) (hll : lnT ((List.range n).map fun i => (f i).data.toList) = l) :
    Calls Tryd.prog 92 #[.slice ra n c] w fun e w' => e = .returned (.string ⟨l.toArray⟩) ∧ Below w.heap.size w w' := by
  obtain ⟨b, o, rfl, hb, hcl⟩ := hl hn0
  have hws : ∀ x ∈ ((List.range n).map f).map (·.data.toList), x.length ≤ 100 := fun x hx => by
    obtain ⟨y, hy, rfl⟩ := List.mem_map.1 hx
    obtain ⟨i, hi, rfl⟩ := List.mem_map.1 hy
    have := hs i (by simpa using hi)
    simpa using this
  have hlen := lnT_len _ hws
  have ej : (Lib.join (((List.range n).map f).map (·.data.toList)) [32]).length ≤ 101 * n := by
    unfold lnT at hlen
    simp at hlen
    simp
    omega
  have eq1 : ((List.range n).map f).map (·.data.toList) = (List.range n).map fun i => (f i).data.toList := by simp
  have hn2 : ((List.range n).map f).length = n := by simp
  have CJ0 := Tryd.strings_Join b o c ((List.range n).map f) (⟨#[32]⟩ : ByteArray) w (fun j x hx => by
    have hj : j < n := by
      rcases Nat.lt_or_ge j n with q | q
      · exact q
      · rw [List.getElem?_eq_none (by simpa using q)] at hx; cases hx
    simp [hj] at hx
    rw [← hx]
    exact hcl j hj) hb (by simp; omega) (by simpa using hc) (by
      show (Lib.join _ [32]).length ≤ _
      omega)
  rw [hn2] at CJ0
  have CJ := Lib.hid CJ0
  clear CJ0 hcl hl hws hlen
  rw [← eq1] at hll
  have ejj : (Lib.join (((List.range n).map f).map (·.data.toList)) (⟨#[32]⟩ : ByteArray).data.toList) = Lib.join (((List.range n).map f).map (·.data.toList)) [32] := rfl
  rw [ejj] at CJ
  unfold lnT at hll
  obtain ⟨z, hz⟩ : ∃ z, Lib.join (((List.range n).map f).map (·.data.toList)) [32] = z := ⟨_, rfl⟩
  rw [hz] at CJ ej hll
  have A1 : ∀ (w : World), (Op.stringOp .add ⟨z.toArray⟩ ⟨#[10]⟩).run Tryd.prog w = .ok (.string ⟨l.toArray⟩) w := fun w => by rw [← hll]; exact run_string_add_lists w z [10] (by omega) (by simp)
  clear ejj hz eq1 hn2 hll ej hs hb
  go_enter Tryd.func92, Tryd.ntmps92
  go_wp2_with (go_at_call 113; (with_reducible refine (CJ.out.mono ?_)); rintro e w2 ⟨rfl, hb2⟩; have HB2 := Lib.hid hb2; clear hb2)
  go_ret
  exact ⟨rfl, HB2.out⟩

def sRope : ByteArray := ⟨#[114, 111, 112, 101]⟩
def sFixed : ByteArray := ⟨#[102, 105, 120, 101, 100]⟩
def sHauled : ByteArray := ⟨#[104, 97, 117, 108, 101, 100]⟩
def sBuild : ByteArray := ⟨#[45]⟩
/-- The words of a rope's line. -/
def wdF (r : Rop) (j : Nat) : ByteArray :=
  if j = 0 then sRope else if j = 1 then r.name else if j = 2 then (if r.hauled then sHauled else sFixed)
  else if j % 3 = 0 then (if (r.hs (j / 3 - 1)).blk = ByteArray.empty then sBuild else (r.hs (j / 3 - 1)).blk)
  else if j % 3 = 1 then bsS (Lib.itoa (r.hs (j / 3 - 1)).pulls) else bsS (txt (r.hs (j / 3 - 1)).num (r.hs (j / 3 - 1)).den)
theorem wdF_3 (r : Rop) (i : Nat) : wdF r (3 + 3 * i) = if (r.hs i).blk = ByteArray.empty then sBuild else (r.hs i).blk := by
  unfold wdF
  rw [if_neg (by omega), if_neg (by omega), if_neg (by omega), if_pos (by omega), show (3 + 3 * i) / 3 - 1 = i by omega]
theorem wdF_4 (r : Rop) (i : Nat) : wdF r (3 + 3 * i + 1) = bsS (Lib.itoa (r.hs i).pulls) := by
  unfold wdF
  rw [if_neg (by omega), if_neg (by omega), if_neg (by omega), if_neg (by omega), if_pos (by omega), show (3 + 3 * i + 1) / 3 - 1 = i by omega]
theorem wdF_5 (r : Rop) (i : Nat) : wdF r (3 + 3 * i + 2) = bsS (txt (r.hs i).num (r.hs i).den) := by
  unfold wdF
  rw [if_neg (by omega), if_neg (by omega), if_neg (by omega), if_neg (by omega), if_neg (by omega), show (3 + 3 * i + 2) / 3 - 1 = i by omega]
theorem txt_len {n d : Int} (hn : i64r n) (hd : i64r d) : (txt n d).length ≤ 43 := by
  have h1 := Lib.itoa_length_le n hn.1 hn.2
  have h2 := Lib.itoa_length_le d hd.1 hd.2
  unfold txt
  split
  · omega
  · rw [List.length_append, List.length_cons]; omega
theorem wdF_size {r : Rop} (h : RopSm r) (hn : r.name.size ≤ 60) {j : Nat} (hj : j < 3 + 3 * r.n) : (wdF r j).size ≤ 60 := by
  by_cases h0 : j = 0
  · subst h0; show sRope.size ≤ 60; decide
  · by_cases h1 : j = 1
    · subst h1; exact hn
    · by_cases h2 : j = 2
      · subst h2
        show (if r.hauled then sHauled else sFixed).size ≤ 60
        split <;> decide
      · have hi : j / 3 - 1 < r.n := by omega
        have hb := h.b _ hi
        have hg := h.g _ hi
        unfold wdF
        rw [if_neg h0, if_neg h1, if_neg h2]
        split
        · split
          · decide
          · exact hb
        · split
          · rw [bsS_size]
            have := Lib.itoa_length_le _ hg.p.1 hg.p.2
            omega
          · rw [bsS_size]
            have := txt_len hg.n hg.d
            omega
theorem StO.of_block {W : World} {base g : Nat} {cs : Array Value} {n : Nat} {f : Nat → ByteArray} (hg : W.heap[g]? = some (.cells cs 9 (0, 0))) (hb : base ≤ g) (hn : n ≤ 1000) (hc : cs.toList = (List.range n).map fun j => Value.string (f j)) : StO W base (.slice (some ⟨g, 0, none⟩) n n) n f := by
  refine ⟨by simp, .inr ⟨g, n, cs, rfl, hb, hg, Nat.le_refl _, by unfold maxLen; omega, ?_, ?_⟩⟩
  · have := congrArg List.length hc
    simpa using this
  · rw [hc, List.take_of_length_le (by simp)]
theorem StO.cap {W : World} {base n : Nat} {ra : Option Addr} {rc : Nat} {f : Nat → ByteArray} (h : StO W base (.slice ra n rc) n f) : n ≤ rc := by
  rcases h.2 with ⟨_, h0⟩ | ⟨g, cap, cur, hv, hb, hg, hc, _⟩
  · omega
  · injection hv with e1 _ e3
    omega
theorem wpList_app_str3 {P : Program} (w : World) {ops : Array Oper} {rest : List Oper} {o : Oper} {a : Act} {Q : Exit → Act → World → Prop} (hP : P = Tryd.prog)
    (hgd : o.guard = none) (s x : Operand) (ho : o.op = .call { callee := .builtin .append, args := #[s, x], argTypes := #[96, 96] })
    (base n : Nat) (v : Value) (f : Nat → ByteArray) (hs : a.eval s = v) (hown : StO w base v n f) (b c : Nat) (hx : a.eval x = .slice (some ⟨b, 0, none⟩) 3 c) (hc : C3 w b (.string (f n)) (.string (f (n + 1))) (.string (f (n + 2)))) (hn : n < 1000) (hbase : base ≤ w.heap.size)
    (h : ∀ g cap w', StO w' base (.slice (some ⟨g, 0, none⟩) (n + 3) cap) (n + 3) f → w.grownBy w' v.ownBlock → wpList P ops Q rest (a.put o.dst (.slice (some ⟨g, 0, none⟩) (n + 3) cap)) w') : wpList P ops Q (o :: rest) a w := by
  subst hP
  obtain ⟨i0, hi0, hz0, hz1, hz2⟩ := info_parts (show (Tryd.prog.info? 9).map (fun i => (i.zero, i.size, i.bytes)) = some (some (Value.string ByteArray.empty), 1, 16) by kernel_rfl)
  refine wpList_append_lies w hgd s x 96 ho base 9 i0 (Value.string ByteArray.empty) 1 16 Tryd.underlying96 hi0 hz0 hz1 hz2 rfl (by decide) v n _ hs hown ⟨b, 0, none⟩ 3 c [.string (f n), .string (f (n + 1)), .string (f (n + 2))] hx rfl (fun j u hu => ?_) (by intro u hu; simp at hu; rcases hu with rfl | rfl | rfl <;> rfl) (by omega) (by unfold maxLen; omega) (by omega) hbase _ rfl ?_
  · rw [show (⟨b, 0, none⟩ : Addr).add j = ⟨b, j, none⟩ by unfold Addr.add; split <;> simp_all]
    match j, hu with
    | 0, hu => simp at hu; subst hu; exact hc.c0
    | 1, hu => simp at hu; subst hu; exact hc.c1
    | 2, hu => simp at hu; subst hu; exact hc.c2
    | j + 3, hu => simp at hu
  · intro g cap w' h2 h3 h4 h5
    refine h g cap w' ?_ h3
    unfold StO
    rw [List.range_succ, List.range_succ, List.range_succ, List.map_append, List.map_append, List.map_append, List.append_assoc, List.append_assoc]
    exact h2
end Go.Proofs.YtcghjjfpjiacfaaDoor
