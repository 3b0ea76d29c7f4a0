/- Layer 7, SubsetsMost: rows that grow, a map of their places, what the parts are. -/
import Derived.Test.YtjonhhmapbibaaaDoorUMsm
import Derived.Test.YtjonhhmapbibaaaDoorUCar2
import Derived.Test.YtjonhhmapbibaaaDoorUAwa
import Derived.Test.YtjonhhmapbibaaaDoorUSame
import Derived.Maps.OwnSet
import Derived.Maps.OwnOps
namespace Go.Proofs.YtjonhhmapbibaaaDoor
open Go.ChangeShapes Go.WideShapes Go.ChangeAt Go.RowKit Go.Joins Go.Deep Go.Shelf Go.Maps
set_option linter.unusedVariables false

/-- A list of lists of indices whose rows lie apart. -/
structure QL (W : World) (base : Nat) (v : Value) (ls : List (List Nat)) (rows : List Value) : Prop where
  pl : PL W base v ls rows
  apart : ∀ (i j q : Nat) (r1 r2 : Value), rows[i]? = some r1 → rows[j]? = some r2 → r1.ownBlock = some q → r2.ownBlock = some q → i = j
theorem QL.on {W W2 : World} {base : Nat} {v : Value} {ls : List (List Nat)} {rows : List Value} (h : QL W base v ls rows) (hb : Below W.heap.size W W2) : QL W2 base v ls rows := ⟨h.pl.on hb, h.apart⟩
theorem PL.len {W : World} {base : Nat} {v : Value} {ls : List (List Nat)} {rows : List Value} (h : PL W base v ls rows) : rows.length = ls.length := by have := h.top.1; omega
/-- A store into a map's block. -/
theorem QL.map {W W2 : World} {base b : Nat} {v : Value} {ls : List (List Nat)} {rows : List Value} (h : QL W base v ls rows) {es : Array MapEntry} {ck : Nat} (hm : W.heap[b]? = some (.map es ck)) (hg : W.grownBy W2 (some b)) : QL W2 base v ls rows := by
  have hA := grown_only (Below.refl _ _) hg
  have key : ∀ {t : TypeId} {k n : Nat} {v : Value} {xs : List Value}, W.ownsRow base t k v n xs → W2.ownsRow base t k v n xs := fun {t k n v xs} ho => own_only ho hA (fun q hq e => by
    injection e with e
    subst e
    rcases ho.2 with ⟨rfl, _⟩ | ⟨g, cap, cur, rfl, _, hh, _⟩
    · simp [Value.ownBlock] at hq
    · simp [Value.ownBlock] at hq
      subst hq
      rw [hm] at hh
      cases hh)
  exact ⟨⟨key h.pl.top, fun i hi => by
    obtain ⟨qa, qc, h1, h2⟩ := h.pl.row i hi
    exact ⟨qa, qc, h1, key h2⟩⟩, h.apart⟩
/-- An empty row more. -/
theorem QL.push {W W2 : World} {base : Nat} {v : Value} {ls : List (List Nat)} {rows : List Value} (h : QL W base v ls rows) (hA : Only (fun q => v.ownBlock = some q) W W2) {v2 : Value} (ht : W2.ownsRow base 22 1 v2 (ls.length + 1) (rows ++ [.slice none 0 0])) : QL W2 base v2 (ls ++ [[]]) (rows ++ [.slice none 0 0]) := by
  refine ⟨h.pl.push (l := []) (qa := none) (qc := 0) ⟨rfl, .inl ⟨rfl, rfl⟩⟩ hA ht, fun i j q r1 r2 h1 h2 e1 e2 => ?_⟩
  have hlen := h.pl.len
  have key : ∀ {i : Nat} {r : Value}, (rows ++ [Value.slice none 0 0])[i]? = some r → r.ownBlock = some q → rows[i]? = some r := fun {i r} hr he => by
    rcases Nat.lt_or_ge i rows.length with z | z
    · rw [List.getElem?_append_left z] at hr; exact hr
    · rw [List.getElem?_append_right z] at hr
      cases hd : i - rows.length with
      | zero => rw [hd] at hr; simp at hr; subst hr; simp [Value.ownBlock] at he
      | succ k => rw [hd] at hr; simp at hr
  exact h.apart i j q r1 r2 (key h1 e1) (key h2 e2) e1 e2
theorem own_blk {W : World} {base : Nat} {t : TypeId} {k n q : Nat} {v : Value} {xs : List Value} (h : W.ownsRow base t k v n xs) (hq : v.ownBlock = some q) : base ≤ q ∧ q < W.heap.size ∧ ∃ cur, W.heap[q]? = some (.cells cur t (0, 0)) := by
  rcases h.2 with ⟨rfl, _⟩ | ⟨g, cap, cur, rfl, hb, hh, _⟩
  · simp [Value.ownBlock] at hq
  · simp [Value.ownBlock] at hq
    subst hq
    exact ⟨hb, (Array.getElem?_eq_some_iff.1 hh).1, cur, hh⟩
/-- A row grows by one number, and is stored in its place. -/
theorem QL.grow {W W2 : World} {base tg tc k x g5 c5 : Nat} {ls : List (List Nat)} {rows : List Value} {r : Value} (h : QL W base (.slice (some ⟨tg, 0, none⟩) ls.length tc) ls rows) (hk : k < ls.length) (hr : rows[k]? = some r)
    (ho : W2.ownsRow base 3 1 (.slice (some ⟨g5, 0, none⟩) ((ls.getD k []).length + 1) c5) ((ls.getD k []).length + 1) ((ls.getD k []).map (fun i => Value.int .i64 (i : Nat)) ++ [.int .i64 (x : Nat)])) (hg : W.grownBy W2 r.ownBlock) (ha : r.ownBlock = some g5 ∨ g5 = W.heap.size) :
    QL (W2.setCell ⟨tg, k, none⟩ (.slice (some ⟨g5, 0, none⟩) ((ls.getD k []).length + 1) c5)) base (.slice (some ⟨tg, 0, none⟩) ls.length tc) (ls.set k (ls.getD k [] ++ [x])) (rows.set k (.slice (some ⟨g5, 0, none⟩) ((ls.getD k []).length + 1) c5)) := by
  have hA := grown_only (Below.refl _ _) hg
  have hlen := h.pl.len
  obtain ⟨qa, qc, hr2, hor⟩ := h.pl.row k hk
  rw [hr] at hr2
  injection hr2 with hr2
  subst hr2
  have htop := own_only h.pl.top hA (own_apart hor h.pl.top (by decide))
  have hst := htop.stored k (.slice (some ⟨g5, 0, none⟩) ((ls.getD k []).length + 1) c5)
  have hg5 : g5 ≠ tg := fun e => by
    obtain ⟨_, _, cur, h1⟩ := own_blk ho rfl
    obtain ⟨_, _, cur2, h2⟩ := own_blk htop rfl
    rw [e, h2] at h1
    injection h1 with h1
    injection h1 with _ h1
    exact absurd h1 (by decide)
  refine ⟨⟨by rw [List.length_set]; exact hst.1, fun i hi => ?_⟩, fun i j q r1 r2 h1 h2 e1 e2 => ?_⟩
  · rw [List.length_set] at hi
    by_cases e : i = k
    · subst e
      have e2 : (ls.set i (ls.getD i [] ++ [x])).getD i [] = ls.getD i [] ++ [x] := by rw [List.getD_eq_getElem?_getD, List.getElem?_set_self hi]; rfl
      rw [e2]
      refine ⟨some ⟨g5, 0, none⟩, c5, by rw [List.getElem?_set_self (by omega), List.length_append]; rfl, ?_⟩
      rw [List.length_append, List.map_append]
      exact ownsRow_setCell_other ho (by simp [Value.ownBlock]; exact hg5) _
    · have e2 : (ls.set k (ls.getD k [] ++ [x])).getD i [] = ls.getD i [] := by rw [List.getD_eq_getElem?_getD, List.getElem?_set_ne (fun q => e q.symm), ← List.getD_eq_getElem?_getD]
      rw [e2]
      obtain ⟨qa2, qc2, p1, p2⟩ := h.pl.row i hi
      refine ⟨qa2, qc2, by rw [List.getElem?_set_ne (fun q => e q.symm)]; exact p1, ?_⟩
      have p3 := own_only p2 hA (fun q hq e3 => e (h.apart i k q _ _ p1 hr hq e3))
      refine ownsRow_setCell_other p3 (fun hq => ?_) _
      obtain ⟨_, _, cur, h1⟩ := own_blk p3 hq
      obtain ⟨_, _, cur2, h2⟩ := own_blk htop rfl
      rw [h2] at h1
      injection h1 with h1
      injection h1 with _ h1
      exact absurd h1 (by decide)
  · have old : ∀ {i : Nat} {r : Value}, i ≠ k → (rows.set k (Value.slice (some ⟨g5, 0, none⟩) ((ls.getD k []).length + 1) c5))[i]? = some r → rows[i]? = some r := fun {i r} hne hi => by
      rw [List.getElem?_set_ne (fun q => hne q.symm)] at hi; exact hi
    have new : ∀ {r : Value}, (rows.set k (Value.slice (some ⟨g5, 0, none⟩) ((ls.getD k []).length + 1) c5))[k]? = some r → r.ownBlock = some g5 := fun {r} hi => by
      rw [List.getElem?_set_self (by omega)] at hi
      injection hi with hi
      rw [← hi]; rfl
    have far : ∀ {i : Nat} {r : Value}, i ≠ k → rows[i]? = some r → r.ownBlock = some g5 → False := fun {i r} hne hi hq => by
      rcases ha with e | e
      · exact hne (h.apart i k g5 _ _ hi hr hq e)
      · have hil : i < ls.length := by rw [← hlen]; exact (List.getElem?_eq_some_iff.1 hi).1
        obtain ⟨qa2, qc2, p1, p2⟩ := h.pl.row i hil
        rw [hi] at p1
        injection p1 with p1
        subst p1
        have := (own_blk p2 hq).2.1
        omega
    by_cases ei : i = k <;> by_cases ej : j = k
    · rw [ei, ej]
    · exfalso
      subst ei
      have := new h1
      rw [e1] at this
      injection this with this
      subst this
      exact far ej (old ej h2) e2
    · exfalso
      subst ej
      have := new h2
      rw [e2] at this
      injection this with this
      subst this
      exact far ei (old ei h1) e1
    · exact h.apart i j q r1 r2 (old ei h1) (old ej h2) e1 e2
theorem rowZ_intZ (ls : List (List Nat)) (i : Nat) : rowZ (ls.map intZ) i = intZ (ls.getD i []) := by
  unfold rowZ
  rw [List.getD_eq_getElem?_getD, List.getElem?_map, List.getD_eq_getElem?_getD]
  cases ls[i]? <;> rfl
theorem LL.lz {W : World} {pa : Option Addr} {ls : List (List Nat)} (h : LL W pa ls) : LZ W pa (ls.map intZ) := fun hn => by
  rw [List.length_map] at hn
  obtain ⟨g, o, h1, h2, h3⟩ := h hn
  refine ⟨g, o, h1, h2, fun i hi => ?_⟩
  rw [List.length_map] at hi
  obtain ⟨qa, qc, h4, h5⟩ := h3 i hi
  rw [rowZ_intZ, intZ_len]
  exact ⟨qa, qc, h4, h5.z⟩
/-- A map's places lie below t. -/
structure MpI (W : World) (b k t : Nat) (D : DataW Unit) : Prop where
  own : W.ownsMap Tryd.prog 5 (plainElem Tryd.prog 3) b k D
  isMap : IsMap D
  all : ∀ kl, has D kl = true → ∃ c : Nat, c < t ∧ D.atKey kl (.lit (.int .i64 0)) = .lit (.int .i64 (c : Int))
theorem MpI.only {W W2 : World} {b k t : Nat} {D : DataW Unit} {S : Nat → Prop} (h : MpI W b k t D) (hA : Only S W W2) (hs : ¬ S b) : MpI W2 b k t D := by
  obtain ⟨es, ck, hb, r⟩ := h.own
  exact ⟨⟨es, ck, (hA.block b (Array.getElem?_eq_some_iff.1 hb).1 hs).trans hb, r⟩, h.isMap, h.all⟩
theorem MpI.on {W W2 : World} {b k t : Nat} {D : DataW Unit} (h : MpI W b k t D) (hb : Below W.heap.size W W2) : MpI W2 b k t D := h.only (Only.of_below (S := fun _ => False) hb) (fun q => q)
theorem MpI.put {W W2 : World} {b k t : Nat} {D : DataW Unit} {c : Nat} (h : MpI W b k t D) (ho : W2.ownsMap Tryd.prog 5 (plainElem Tryd.prog 3) b (k + 1) (D.put (.int .u8 (c : Int)) (.lit (.int .i64 (t : Int))))) : MpI W2 b (k + 1) (t + 1) (D.put (.int .u8 (c : Int)) (.lit (.int .i64 (t : Int)))) := by
  refine ⟨ho, ?_, fun kl hkl => ?_⟩
  · obtain ⟨es, ck, _, _, _, e⟩ := ho
    exact ⟨_, e⟩
  · by_cases e : kl = .int .u8 (c : Int)
    · subst e
      exact ⟨t, by omega, atKey_put_same h.isMap (by trivial) _ _⟩
    · rw [has_put_other e] at hkl
      obtain ⟨c2, h1, h2⟩ := h.all kl hkl
      exact ⟨c2, by omega, by rw [atKey_put_other e]; exact h2⟩
theorem MpI.more {W : World} {b k t : Nat} {D : DataW Unit} (h : MpI W b k t D) : MpI W b (k + 1) t D := ⟨h.own.mono (by omega), h.isMap, h.all⟩
/-- The parts, one by one. -/
theorem ptr_at {n : Nat} {f : Nat → Int} (hn : n ≤ 16) : ∀ (ps : List Nat) (left i : Nat), left < 2 ^ n → PtR (fun s => smS (bitI n s) f n) (fun s => (mst n (fun s => smS (bitI n s) f n) s : Int)) left ps → i < ps.length →
    ∃ left p, left < 2 ^ n ∧ Sub p left ∧ p ≠ 0 ∧ FpC (fun s => smS (bitI n s) f n) (fun s => (mst n (fun s => smS (bitI n s) f n) s : Int)) left p ∧ (idxs n ps).getD i [] = ixs (bitI n p) n
  | [], _, i, _, _, hi => absurd hi (Nat.not_lt_zero i)
  | p :: ps, left, i, hl, h, hi => by
    have h2 := p2_le hn
    obtain ⟨h0, hs, hf, _, hr⟩ := h
    cases i with
    | zero =>
      refine ⟨left, p, hl, hs, fun e => ?_, hf, rfl⟩
      subst e
      have := hf.2
      rw [show anb left 0 = left from Nat.eq_of_testBit_eq fun i => by rw [ab_bit (by omega) (by omega), Nat.zero_testBit]; simp] at this
      omega
    | succ i => exact ptr_at hn ps (anb left p) i (Nat.lt_of_le_of_lt (anb_le _ _) hl) hr (by simpa using hi)
/-- Zero of a part is the whole part. -/
theorem Zero_part (ra : Option Addr) (m c n left p : Nat) (f : Nat → Int) (w : World) (hr : IRow w ra m (fun i => f ((ixs (bitI n p) n).getD i 0))) (hd : DB w) (hn : n ≤ 11) (ho : okF n f = true) (hl : left < 2 ^ n) (hp : Sub p left) (h0 : p ≠ 0)
    (hf : FpC (fun s => smS (bitI n s) f n) (fun s => (mst n (fun s => smS (bitI n s) f n) s : Int)) left p) (hm : m = (ixs (bitI n p) n).length) :
    Calls Tryd.prog 16 #[.slice ra m c] w fun e w' => Below w.heap.size w w' ∧ ∃ pa pc, e = .returned (.tuple #[.slice pa m pc, .int .i64 0]) := by
  subst hm
  have hpl := hp.le
  have hml : (ixs (bitI n p) n).length ≤ n := by unfold ixs; exact Nat.le_trans (List.length_filter_le _ _) (by simp)
  have hok : okF (ixs (bitI n p) n).length (fun i => f ((ixs (bitI n p) n).getD i 0)) = true := decide_eq_true fun j hj => (of_decide_eq_true ho) _ (ixs_rank hj).1
  refine (Zero_ok ra _ c _ w hr hd (by omega) hok).mono fun e w' ⟨hb, v, er, h1, h2⟩ => ⟨hb, ?_⟩
  rcases h2 with ⟨_, _, h3⟩ | ⟨rfl, l, pa, pc, rfl, h3, _, _⟩
  · exfalso
    have hfull : (ixs (fun _ => true) (ixs (bitI n p) n).length).length = (ixs (bitI n p) n).length := ixs_full.2 (fun _ _ => rfl)
    refine h3 _ ⟨fun _ => true, rfl, ?_, by rw [hfull]; exact ixs_pos (by omega) h0⟩
    have := smS_places (bitI n p) (fun _ => true) f n
    rw [this]
    have h5 := hf.1
    simp only at h5
    rw [← h5]
    exact smS_congr fun i hi => by simp
  · rw [zero_whole (by omega) hl hp h0 hf h3.1] at h1
    exact ⟨pa, pc, h1⟩
end Go.Proofs.YtjonhhmapbibaaaDoor
