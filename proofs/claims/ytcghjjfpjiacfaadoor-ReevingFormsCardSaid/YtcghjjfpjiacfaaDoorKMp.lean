/- Layer 10: maps from names: to the rows of blocks; of names that were met. -/
import Derived.Test.YtcghjjfpjiacfaaDoorKB
namespace Go.Proofs.YtcghjjfpjiacfaaDoor
open Go.ChangeShapes Go.WideShapes Go.ChangeAt Go.RowKit Go.Joins Go.Deep Go.Shelf
open Go.WideMaps (keyOf_string_mk)
open Go.Maps (Keyed IsMap has isMap_empty atKey_put_same atKey_put_other has_put_same has_put_other string_keyed)
set_option linter.unusedVariables false

theorem strlaw : Keyed Tryd.prog 9 := string_keyed Tryd.underlying9
theorem kzeroI (w : World) : (zeroValue 3).run Tryd.prog w = .ok (.int .i64 0) w := by kernel_rfl
theorem kzeroB (w : World) : (zeroValue 4).run Tryd.prog w = .ok (.bool false) w := by kernel_rfl
def klt (s : ByteArray) : Lit := .string s.data.toList
theorem klt_inj {a b : ByteArray} (h : klt a = klt b) : a = b := by
  unfold klt at h
  injection h with h
  exact Go.WideShapes.bytes_inj h
theorem klt_ne {a b : ByteArray} (h : a ≠ b) : klt a ≠ klt b := fun e => h (klt_inj e)
theorem klt_key (s : ByteArray) : WideAt.IsKeyLit (klt s) := by unfold klt; trivial
theorem klt_of (s : ByteArray) (h : s.size ≤ maxLen) : keyOf Tryd.prog 9 (.string s) = some (klt s) := keyOf_string_mk Tryd.underlying9 h
theorem kbool_inv {v : Value} {z : DataW Unit × List MemPlace} (h : plainElem Tryd.prog 4 v = some z) : ∃ x, v = .bool x ∧ z = (.lit (.bool x), []) := by
  have e := Tryd.underlying4
  generalize Tryd.prog = P at e h
  unfold plainElem at h
  rw [e] at h
  cases v <;> simp at h
  exact ⟨_, rfl, h.symm⟩
/-- Where a string stands last. -/
def lstI (f : Nat → ByteArray) (x : ByteArray) : Nat → Option Nat
  | 0 => none
  | n + 1 => if f n = x then some n else lstI f x n
theorem lstI_some {f : Nat → ByteArray} {x : ByteArray} : ∀ {n i : Nat}, lstI f x n = some i → i < n ∧ f i = x
  | 0, i, h => by cases h
  | n + 1, i, h => by
    unfold lstI at h
    split at h
    · injection h with h
      subst h
      exact ⟨by omega, by assumption⟩
    · have := lstI_some h
      exact ⟨by omega, this.2⟩
theorem lstI_none {f : Nat → ByteArray} {x : ByteArray} : ∀ {n : Nat}, lstI f x n = none → ∀ j, j < n → f j ≠ x
  | 0, _, j, hj => by omega
  | n + 1, h, j, hj => by
    unfold lstI at h
    split at h
    · cases h
    · rcases Nat.lt_or_ge j n with q | q
      · exact lstI_none h j q
      · rw [show j = n by omega]; assumption
theorem lstI_kn (f : Nat → ByteArray) (x : ByteArray) (n : Nat) : (lstI f x n).isSome = knB f n x := by
  cases e : lstI f x n with
  | some i =>
    have := lstI_some e
    exact (knB_iff.2 ⟨i, this⟩).symm
  | none =>
    cases e2 : knB f n x
    · rfl
    · obtain ⟨i, h1, h2⟩ := knB_iff.1 e2
      exact absurd h2 (lstI_none e i h1)
theorem lstI_fst {f : Nat → ByteArray} {x : ByteArray} {n : Nat} (hd : ∀ k, k < n → ∀ j, j < k → f j ≠ f k) : lstI f x n = fstI f x n := by
  cases e : lstI f x n with
  | some i =>
    have ⟨h1, h2⟩ := lstI_some e
    exact (fstI_is h1 h2 fun j hj => by rw [← h2]; exact hd i h1 j hj).symm
  | none => exact (fstI_none.2 (lstI_none e)).symm

/-- The map in block b tells, of the first n names, where each one stands last. -/
def IxM (W : World) (b : Nat) (f : Nat → ByteArray) (n : Nat) : Prop := ∃ (D : DataW Unit), W.ownsMap Tryd.prog 9 (plainElem Tryd.prog 3) b n D ∧ IsMap D ∧
  ∀ x, has D (klt x) = (lstI f x n).isSome ∧ D.atKey (klt x) (.lit (.int .i64 0)) = .lit (.int .i64 (((lstI f x n).getD 0 : Nat) : Int))
theorem IxM.only {W W2 : World} {b n : Nat} {f : Nat → ByteArray} {S : Nat → Prop} (h : IxM W b f n) (hA : Only S W W2) (hs : ¬ S b) : IxM W2 b f n := by
  obtain ⟨D, ⟨es, ck, hb, r⟩, h2⟩ := h
  exact ⟨D, ⟨es, ck, (hA.block b (Array.getElem?_eq_some_iff.1 hb).1 hs).trans hb, r⟩, h2⟩
theorem IxM.on {W W2 : World} {b n : Nat} {f : Nat → ByteArray} (h : IxM W b f n) (hb : Below W.heap.size W W2) : IxM W2 b f n := h.only (Only.of_below (S := fun _ => False) hb) (fun q => q)
theorem IxM.lt {W : World} {b n : Nat} {f : Nat → ByteArray} (h : IxM W b f n) : b < W.heap.size := by
  obtain ⟨D, ⟨es, ck, hb, r⟩, h2⟩ := h
  exact (Array.getElem?_eq_some_iff.1 hb).1
theorem IxM.made (w : World) (f : Nat → ByteArray) : IxM (w.alloc (.map #[] 0)) w.heap.size f 0 := ⟨.map [], World.ownsMap_made _ _ _ _, isMap_empty, fun x => ⟨rfl, rfl⟩⟩
theorem wpList_ixm {P : Program} (w : World) {ops : Array Oper} {rest : List Oper} {o : Oper} {a : Act} {Q : Exit → Act → World → Prop} (hP : P = Tryd.prog)
    (hg : o.guard = none) (m x : Operand) (hop : o.op = Op.lookup 99 m x true) (b n : Nat) (f : Nat → ByteArray)
    (hm : a.eval m = .map (some b)) (h : IxM w b f n) (s : ByteArray) (hx : a.eval x = .string s) (hs : s.size ≤ maxLen) (c : Nat) (t : Bool) (hc : (lstI f s n).getD 0 = c) (ht : (lstI f s n).isSome = t)
    (hK : wpList P ops Q rest (a.put o.dst (.tuple #[.int .i64 (c : Int), .bool t])) w) :
    wpList P ops Q (o :: rest) a w := by
  subst hP
  obtain ⟨D, h1, h2, h3⟩ := h
  refine wpList_lookup_own_ok_int _ hg m x 99 hop 9 3 .i64 strlaw Tryd.underlying99 Tryd.underlying3 (kzeroI _) b n D hm h1 _ (klt s) hx (klt_of s hs) ?_
  intro c hat _
  have h4 := h3 s
  rw [h4.2] at hat
  injection hat with hat
  injection hat with _ hat
  rw [h4.1, ← hat, hc, ht]
  exact hK
theorem wpList_ixm_put {P : Program} (w : World) {ops : Array Oper} {rest : List Oper} {o : Oper} {a : Act} {Q : Exit → Act → World → Prop} (hP : P = Tryd.prog)
    (hg : o.guard = none) (m x v : Operand) (hop : o.op = Op.mapUpdate 99 m x v) (b n : Nat) (f : Nat → ByteArray)
    (hm : a.eval m = .map (some b)) (h : IxM w b f n) (hx : a.eval x = .string (f n)) (hv : a.eval v = .int .i64 (n : Int)) (hs : (f n).size ≤ maxLen) (hn : n < 1000)
    (hK : ∀ w', IxM w' b f (n + 1) → w.grownBy w' (some b) → wpList P ops Q rest (a.put o.dst undef) w') :
    wpList P ops Q (o :: rest) a w := by
  subst hP
  obtain ⟨D, h1, h2, h3⟩ := h
  refine wpList_mapUpdate_own _ hg m x v 99 hop 9 3 strlaw Tryd.underlying99 _ b n D hm h1 (by unfold maxLen; omega) _ _ (klt (f n)) hx hv (klt_of (f n) hs) _ [] (plainElem_int Tryd.underlying3 (by simp [Lit.wf, IntKind.min, IntKind.max, IntKind.signed, IntKind.bits]; omega)) ?_
  intro w1 hown hgrow
  refine hK w1 ⟨_, hown, h2.put _ _, fun y => ?_⟩ hgrow
  unfold lstI
  by_cases e : f n = y
  · rw [if_pos e, ← e]
    exact ⟨has_put_same h2 (klt_key _) _, atKey_put_same h2 (klt_key _) _ _⟩
  · rw [if_neg e, has_put_other (klt_ne (fun q => e q.symm)), atKey_put_other (klt_ne (fun q => e q.symm))]
    exact h3 y

/-- The map in block b has met the first n names. -/
def MtM (W : World) (b : Nat) (f : Nat → ByteArray) (n : Nat) : Prop := ∃ (D : DataW Unit), W.ownsMap Tryd.prog 9 (plainElem Tryd.prog 4) b n D ∧ IsMap D ∧
  ∀ x, D.atKey (klt x) (.lit (.bool false)) = .lit (.bool (lstI f x n).isSome)
theorem MtM.only {W W2 : World} {b n : Nat} {f : Nat → ByteArray} {S : Nat → Prop} (h : MtM W b f n) (hA : Only S W W2) (hs : ¬ S b) : MtM W2 b f n := by
  obtain ⟨D, ⟨es, ck, hb, r⟩, h2⟩ := h
  exact ⟨D, ⟨es, ck, (hA.block b (Array.getElem?_eq_some_iff.1 hb).1 hs).trans hb, r⟩, h2⟩
theorem MtM.on {W W2 : World} {b n : Nat} {f : Nat → ByteArray} (h : MtM W b f n) (hb : Below W.heap.size W W2) : MtM W2 b f n := h.only (Only.of_below (S := fun _ => False) hb) (fun q => q)
theorem MtM.made (w : World) (f : Nat → ByteArray) : MtM (w.alloc (.map #[] 0)) w.heap.size f 0 := ⟨.map [], World.ownsMap_made _ _ _ _, isMap_empty, fun x => rfl⟩
theorem wpList_mtm {P : Program} (w : World) {ops : Array Oper} {rest : List Oper} {o : Oper} {a : Act} {Q : Exit → Act → World → Prop} (hP : P = Tryd.prog)
    (hg : o.guard = none) (m x : Operand) (hop : o.op = Op.lookup 137 m x false) (b n : Nat) (f : Nat → ByteArray)
    (hm : a.eval m = .map (some b)) (h : MtM w b f n) (s : ByteArray) (hx : a.eval x = .string s) (hs : s.size ≤ maxLen) (t : Bool) (ht : (lstI f s n).isSome = t)
    (hK : wpList P ops Q rest (a.put o.dst (.bool t)) w) :
    wpList P ops Q (o :: rest) a w := by
  subst hP
  obtain ⟨D, h1, h2, h3⟩ := h
  refine wpList_plain hg fun K' hK' => ?_
  obtain ⟨v, ps, hrun, hR⟩ := h1.lookup strlaw Tryd.underlying137 (kzeroB w) (plainElem_bool Tryd.underlying4 false) (klt_of s hs)
  obtain ⟨c, rfl, hc⟩ := kbool_inv hR
  have hat := congrArg Prod.fst hc
  simp only at hat
  rw [h3 s] at hat
  injection hat with hat
  injection hat with hat
  unfold Oper.wp
  simp [execOp, hop, hm, hx, hrun, Result.andThen]
  rw [← hat, ht]
  exact hK' _ _ hK
theorem wpList_mtm_put {P : Program} (w : World) {ops : Array Oper} {rest : List Oper} {o : Oper} {a : Act} {Q : Exit → Act → World → Prop} (hP : P = Tryd.prog)
    (hg : o.guard = none) (m x v : Operand) (hop : o.op = Op.mapUpdate 137 m x v) (b n : Nat) (f : Nat → ByteArray)
    (hm : a.eval m = .map (some b)) (h : MtM w b f n) (hx : a.eval x = .string (f n)) (hv : a.eval v = .bool true) (hs : (f n).size ≤ maxLen) (hn : n < 1000)
    (hK : ∀ w', MtM w' b f (n + 1) → w.grownBy w' (some b) → wpList P ops Q rest (a.put o.dst undef) w') :
    wpList P ops Q (o :: rest) a w := by
  subst hP
  obtain ⟨D, h1, h2, h3⟩ := h
  refine wpList_mapUpdate_own _ hg m x v 137 hop 9 4 strlaw Tryd.underlying137 _ b n D hm h1 (by unfold maxLen; omega) _ _ (klt (f n)) hx hv (klt_of (f n) hs) _ [] (plainElem_bool Tryd.underlying4 true) ?_
  intro w1 hown hgrow
  refine hK w1 ⟨_, hown, h2.put _ _, fun y => ?_⟩ hgrow
  unfold lstI
  by_cases e : f n = y
  · rw [if_pos e, ← e]
    exact atKey_put_same h2 (klt_key _) _ _
  · rw [if_neg e, atKey_put_other (klt_ne (fun q => e q.symm))]
    exact h3 y
/-- An own list of strings. -/
def StO (W : World) (base : Nat) (v : Value) (n : Nat) (f : Nat → ByteArray) : Prop := W.ownsRow base 9 1 v n ((List.range n).map fun j => Value.string (f j))
theorem StO.start (W : World) (base : Nat) (f : Nat → ByteArray) : StO W base (.slice none 0 0) 0 f := ⟨rfl, .inl ⟨rfl, rfl⟩⟩
theorem StO.only {S : Nat → Prop} {W W2 : World} {base n : Nat} {v : Value} {f : Nat → ByteArray} (h : StO W base v n f) (hb : Only S W W2) (hn : ∀ q, v.ownBlock = some q → ¬ S q) : StO W2 base v n f := own_only h hb hn
theorem StO.on {W W2 : World} {base n : Nat} {v : Value} {f : Nat → ByteArray} (h : StO W base v n f) (hb : Below W.heap.size W W2) : StO W2 base v n f := own_only h (Only.of_below (S := fun _ => False) hb) (fun _ _ q => q)
theorem wpList_app_str {P : Program} (w : World) {ops : Array Oper} {rest : List Oper} {o : Oper} {a : Act} {Q : Exit → Act → World → Prop} (hP : P = Tryd.prog)
    (hgd : o.guard = none) (s x : Operand) (ho : o.op = .call { callee := .builtin .append, args := #[s, x], argTypes := #[96, 96] })
    (base n : Nat) (v : Value) (f : Nat → ByteArray) (hs : a.eval s = v) (hown : StO w base v n f) (ad : Addr) (c : Nat) (hx : a.eval x = .slice (some ad) 1 c) (hc : w.cell? ad = some (.string (f n))) (hn : n < 1000) (hbase : base ≤ w.heap.size)
    (h : ∀ g cap w', StO w' base (.slice (some ⟨g, 0, none⟩) (n + 1) cap) (n + 1) f → w.grownBy w' v.ownBlock → wpList P ops Q rest (a.put o.dst (.slice (some ⟨g, 0, none⟩) (n + 1) cap)) w') : wpList P ops Q (o :: rest) a w := by
  subst hP
  obtain ⟨i0, hi0, hz0, hz1, hz2⟩ := info_parts (show (Tryd.prog.info? 9).map (fun i => (i.zero, i.size, i.bytes)) = some (some (Value.string ByteArray.empty), 1, 16) by kernel_rfl)
  refine wpList_append_lies w hgd s x 96 ho base 9 i0 (Value.string ByteArray.empty) 1 16 Tryd.underlying96 hi0 hz0 hz1 hz2 rfl (by decide) v n _ hs hown ad 1 c [.string (f n)] hx rfl (fun j u hu => ?_) (by intro u hu; simp at hu; subst hu; rfl) (by omega) (by unfold maxLen; omega) (by omega) hbase _ rfl ?_
  · cases j with
    | zero =>
      simp at hu
      subst hu
      rw [show ad.add 0 = ad by unfold Addr.add; split <;> simp_all]
      exact hc
    | succ j => simp at hu
  · intro g cap w' h2 h3 h4 h5
    refine h g cap w' ?_ h3
    unfold StO
    rw [List.range_succ, List.map_append]
    exact h2
/-- Strings as they lie. -/
def StrL (W : World) (ra : Option Addr) (n : Nat) (f : Nat → ByteArray) : Prop := 0 < n → ∃ b o, ra = some ⟨b, o, none⟩ ∧ b < W.heap.size ∧ ∀ i, i < n → W.cell? ⟨b, o + i, none⟩ = some (.string (f i))
theorem StrL.on {W W2 : World} {ra : Option Addr} {n : Nat} {f : Nat → ByteArray} (h : StrL W ra n f) (hb : Below W.heap.size W W2) : StrL W2 ra n f := fun hn => by
  obtain ⟨b, o, h1, h2, h3⟩ := h hn
  exact ⟨b, o, h1, Nat.lt_of_lt_of_le h2 hb.size, fun i hi => (hb.cell (p := ⟨b, o + i, none⟩) h2).trans (h3 i hi)⟩
theorem StO.strl {W : World} {base n : Nat} {ra : Option Addr} {rc : Nat} {f : Nat → ByteArray} (h : StO W base (.slice ra n rc) n f) : StrL W ra n f := fun hn => by
  rcases h.2 with ⟨_, h0⟩ | ⟨g, cap, cur, hv, hb, hg, hc, _⟩
  · omega
  · injection hv with e1 _ e3
    subst e1
    refine ⟨g, 0, rfl, (Array.getElem?_eq_some_iff.1 hg).1, fun j hj => ?_⟩
    have := World.ownsRow.cells h (g := g) (by rfl) j (.string (f j)) (by simp [hj])
    rw [Nat.zero_add]
    rwa [show (⟨g, 0, none⟩ : Addr).add j = ⟨g, j, none⟩ by unfold Addr.add; split <;> simp_all] at this
theorem below_own {w W W2 : World} {n : Nat} {v : Value} {f : Nat → ByteArray} (hb : Below w.heap.size w W) (ho : StO W w.heap.size v n f) (hg : W.grownBy W2 v.ownBlock) : Below w.heap.size w W2 := below_grown hb ho hg
theorem below_blk {w W W2 : World} {mb : Nat} (hb : Below w.heap.size w W) (hg : W.grownBy W2 (some mb)) (hm : w.heap.size ≤ mb) : Below w.heap.size w W2 :=
  hb.trans ((grown_only (Below.refl W.heap.size W) hg).below hb.size (fun q hq => by injection hq with hq; omega))
theorem IsName_nam (s : ByteArray) (w : World) (hs : s.size ≤ 1000) : Calls Tryd.prog 95 #[.string s] w fun e w' => e = .returned (.bool (namB s.data.toList)) ∧ w = w' :=
  (IsName_any s w (by unfold maxLen; omega)).mono fun e w' ⟨h1, h2⟩ => ⟨by rw [h1]; unfold namB; simp, h2⟩
end Go.Proofs.YtcghjjfpjiacfaaDoor
