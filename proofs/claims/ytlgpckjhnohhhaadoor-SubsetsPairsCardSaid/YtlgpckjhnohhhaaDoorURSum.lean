/- Layer 7's reference: Sums, far, Nearest. -/
import Derived.Test.YtlgpckjhnohhhaaDoorURef
import Derived.Test.YtlgpckjhnohhhaaDoorUOrdM
import Derived.Test.YtlgpckjhnohhhaaDoorUNear
import Derived.Deep.Upon
import Derived.Deep.AppendLies
namespace Go.Proofs.YtlgpckjhnohhhaaDoor
open Go.ChangeShapes Go.WideShapes Go.ChangeAt Go.RowKit Go.Joins Go.Deep Go.Shelf
set_option linter.unusedVariables false

def zrow (zs : List Int) : List Value := zs.map (Value.int .i64)
/-- An ascending list with the sums of the sets up to k. -/
structure SmI (f : Nat → Int) (n k : Nat) (zs : List Int) : Prop where
  asc : Asc zs
  mem : ∀ x, x ∈ zs ↔ ∃ t, t < k ∧ smS (bitR t) f n = x
  len : zs.length ≤ k
theorem SmI.done {f : Nat → Int} {n : Nat} {zs : List Int} (h : SmI f n (2 ^ n) zs) : zs = allS f n := by
  refine asc_eq h.asc (allS_asc f n) fun x => ?_
  rw [h.mem, allS_mem]
  constructor
  · rintro ⟨t, _, e⟩; exact ⟨bitR t, e⟩
  · rintro ⟨p, rfl⟩
    exact ⟨ofB p n, ofB_lt p n, smS_congr fun i hi => ofB_bit p n i hi⟩
theorem SmI.same {f : Nat → Int} {n k : Nat} {zs : List Int} (h : SmI f n k zs) (hm : smS (bitR k) f n ∈ zs) : SmI f n (k + 1) zs :=
  ⟨h.asc, fun x => by
    rw [h.mem]
    constructor
    · rintro ⟨t, ht, e⟩; exact ⟨t, by omega, e⟩
    · rintro ⟨t, ht, e⟩
      by_cases q : t = k
      · subst q; rw [← e]; exact (h.mem _).1 hm
      · exact ⟨t, by omega, e⟩, by have := h.len; omega⟩
theorem SmI.put {f : Nat → Int} {n k j : Nat} {zs : List Int} {x : Int} (h : SmI f n k zs) (hx : smS (bitR k) f n = x) (h1 : ∀ y ∈ zs.take j, y < x) (h2 : ∀ y ∈ zs.drop j, x < y) : SmI f n (k + 1) (zs.take j ++ [x] ++ zs.drop j) := by
  refine ⟨?_, fun y => ?_, ?_⟩
  · unfold Asc
    have e := h.asc
    unfold Asc at e
    rw [← List.take_append_drop j zs] at e
    obtain ⟨a, b, c⟩ := List.pairwise_append.1 e
    refine List.pairwise_append.2 ⟨List.pairwise_append.2 ⟨a, List.pairwise_singleton _ _, fun y hy z hz => by rw [List.mem_singleton.1 hz]; exact h1 y hy⟩, b, fun y hy z hz => ?_⟩
    rcases List.mem_append.1 hy with q | q
    · exact c y q z hz
    · rw [List.mem_singleton.1 q]; exact h2 z hz
  · have : y ∈ zs.take j ++ [x] ++ zs.drop j ↔ y ∈ zs ∨ y = x := by
      have e : y ∈ zs ↔ y ∈ zs.take j ∨ y ∈ zs.drop j := by rw [← List.mem_append, List.take_append_drop]
      rw [e]
      simp only [List.mem_append, List.mem_singleton]
      constructor
      · rintro ((q | q) | q)
        · exact .inl (.inl q)
        · exact .inr q
        · exact .inl (.inr q)
      · rintro ((q | q) | q)
        · exact .inl (.inl q)
        · exact .inr q
        · exact .inl (.inr q)
    rw [this, h.mem]
    constructor
    · rintro (⟨t, ht, e⟩ | rfl)
      · exact ⟨t, by omega, e⟩
      · exact ⟨k, by omega, hx⟩
    · rintro ⟨t, ht, e⟩
      by_cases q : t = k
      · subst q; right; rw [← e, hx]
      · exact .inl ⟨t, by omega, e⟩
  · have := h.len
    rw [List.length_append, List.length_append, List.length_take, List.length_drop]
    simp only [List.length_singleton]
    omega

def ZR (W : World) (oa : Option Addr) (zs : List Int) : Prop := 0 < zs.length → ∃ g, oa = some ⟨g, 0, none⟩ ∧ g < W.heap.size ∧ ∀ j, j < zs.length → W.cell? ⟨g, j, none⟩ = some (.int .i64 (nth zs j))
theorem ZR.on {W W2 : World} {oa : Option Addr} {zs : List Int} (h : ZR W oa zs) (hb : Below W.heap.size W W2) : ZR W2 oa zs := fun hn => by
  obtain ⟨g, h1, h2, h3⟩ := h hn
  exact ⟨g, h1, Nat.lt_of_lt_of_le h2 hb.size, fun j hj => (hb.cell (p := ⟨g, j, none⟩) h2).trans (h3 j hj)⟩
/-- What is appended: a slice's elements, perhaps none. -/
def SrcV (W : World) (v : Value) (m : Nat) (news : List Value) : Prop := ∃ ad c, v = .slice ad m c ∧ news.length = m ∧ (0 < m → ∃ a : Addr, ad = some a ∧ ∀ j u, news[j]? = some u → W.cell? (a.add j) = some u) ∧ ∀ u ∈ news, u.oneCell' = true
theorem zrow_one (zs : List Int) : ∀ u ∈ zrow zs, u.oneCell' = true := fun u hu => by
  obtain ⟨j, _, rfl⟩ := List.mem_map.1 hu
  rfl
theorem add_at (g o j : Nat) : (⟨g, o, none⟩ : Addr).add j = ⟨g, o + j, none⟩ := by unfold Addr.add; split <;> simp_all
theorem ZR.srcH {W : World} {oa : Option Addr} {zs : List Int} {j oc : Nat} (h : ZR W oa zs) (hj : j ≤ zs.length) (hc : zs.length ≤ oc) : SrcV W (sliced oa 0 j oc 1) j (zrow (zs.take j)) := by
  refine ⟨_, _, rfl, by unfold zrow; rw [List.length_map, List.length_take]; omega, fun hm => ?_, zrow_one _⟩
  obtain ⟨g, rfl, h2, h3⟩ := h (by omega)
  refine ⟨⟨g, 0, none⟩, by rw [if_neg (by omega)]; simp [add_at], fun i u hu => ?_⟩
  unfold zrow at hu
  have hi : i < j := by
    rcases Nat.lt_or_ge i j with q | q
    · exact q
    · rw [List.getElem?_eq_none (by simp; omega)] at hu; cases hu
  rw [List.getElem?_map, List.getElem?_take_of_lt hi, List.getElem?_eq_getElem (by omega)] at hu
  rw [add_at, Nat.zero_add, h3 i (by omega), ← hu]
  unfold nth
  rw [List.getD_eq_getElem?_getD, List.getElem?_eq_getElem (by omega)]; rfl
theorem ZR.srcL {W : World} {oa : Option Addr} {zs : List Int} {j oc : Nat} (h : ZR W oa zs) (hj : j ≤ zs.length) (hc : zs.length ≤ oc) : SrcV W (sliced oa j zs.length oc 1) (zs.length - j) (zrow (zs.drop j)) := by
  refine ⟨_, _, rfl, by unfold zrow; rw [List.length_map, List.length_drop], fun hm => ?_, zrow_one _⟩
  obtain ⟨g, rfl, h2, h3⟩ := h (by omega)
  refine ⟨⟨g, j, none⟩, by rw [if_neg (by omega)]; simp [add_at], fun i u hu => ?_⟩
  unfold zrow at hu
  have hi : i < zs.length - j := by
    rcases Nat.lt_or_ge i (zs.length - j) with q | q
    · exact q
    · rw [List.getElem?_eq_none (by simp; omega)] at hu; cases hu
  rw [List.getElem?_map, List.getElem?_drop, List.getElem?_eq_getElem (by omega)] at hu
  rw [add_at, h3 (j + i) (by omega), ← hu]
  unfold nth
  rw [List.getD_eq_getElem?_getD, List.getElem?_eq_getElem (by omega)]; rfl
theorem SrcV.one {W : World} {b c : Nat} {x : Int} (h : W.cell? ⟨b, 0, none⟩ = some (.int .i64 x)) : SrcV W (.slice (some ⟨b, 0, none⟩) 1 c) 1 (zrow [x]) :=
  ⟨_, _, rfl, rfl, fun _ => ⟨_, rfl, fun j u hu => by
    cases j with
    | zero => simp [zrow] at hu; subst hu; rw [add_at]; exact h
    | succ j => simp [zrow] at hu⟩, zrow_one _⟩
theorem wp_app_any {P : Program} {w : World} {o : Oper} {a : Act} {K : Act → World → Prop} {Q : Exit → Act → World → Prop} (s x : Operand) (t : TypeId)
    (ho : o.op = .call { callee := .builtin .append, args := #[s, x], argTypes := #[t, t] })
    (base : Nat) (e : TypeId) (i : TypeInfo) (z : Value) (bytes : Nat) (ht : P.underlying t = some (.slice e)) (hi : P.info? e = some i) (hz : i.zero = some z)
    (hsize : i.size = 1) (hby : i.bytes = bytes) (hzs : z.cells.size = 1)
    (v : Value) (n : Nat) (xs : List Value) (hs : a.eval s = v) (hown : w.ownsRow base e 1 v n xs)
    (m : Nat) (news : List Value) (hx : SrcV w (a.eval x) m news) (h63 : n + m ≤ maxLen) (hbytes : (n + m) * bytes ≤ 140737488355328) (hbase : base ≤ w.heap.size)
    (h : ∀ v' w', w'.ownsRow base e 1 v' (n + m) (xs ++ news) → w.grownBy w' v.ownBlock → K (a.put o.dst v') w') : o.wp P a w K Q := by
  obtain ⟨ad, c, hv, hl, hc, h1⟩ := hx
  by_cases hm : 0 < m
  · obtain ⟨a0, rfl, hnews⟩ := hc hm
    exact wp_append_lies w s x t ho base e i z 1 bytes ht hi hz hsize hby hzs (by decide) v n xs hs hown a0 m c news hv (by omega) hnews h1 hm h63 hbytes hbase _ rfl (fun g cap w' p1 p2 p3 p4 => h _ w' p1 p2)
  · have e0 : m = 0 := by omega
    subst e0
    have en : news = [] := List.length_eq_zero_iff.1 hl
    subst en
    have hsrc : Src P i.size t (.slice ad 0 c) 0 [] w := by
      cases ad with
      | none => exact Src.ofNil w ht c
      | some a0 => exact Src.ofSlice w ht a0 0 c [] (by simp) (fun j u hu => by simp at hu) (fun u hu => by cases hu)
    obtain ⟨pa, pc, hpv, hpc⟩ : ∃ pa pc, v = .slice pa n pc ∧ n ≤ pc := by
      rcases hown.2 with ⟨q1, q2⟩ | ⟨g, cap, cur, q1, _, _, q2, _⟩
      · subst q2; exact ⟨_, _, q1, Nat.le_refl _⟩
      · exact ⟨_, _, q1, q2⟩
    have hr : (Builtin.append_ #[t, t] o.type #[v, .slice ad 0 c]).run P w = .ok v w := by
      rw [hpv]; exact run_append_nothing w t t o.type e i ht hi pa n pc hpc _ hsrc
    unfold Oper.wp execOp
    simp only [ho, resolve, invoke, builtin, Sem.run_bind, Sem.run_pure, Result.andThen_ok, List.map_toArray, List.map_cons, List.map_nil, hs, hv, hr]
    exact h v w (by simpa using hown) ⟨rfl, rfl, rfl, Nat.le_refl _, fun _ _ _ => rfl⟩
structure PutR (oa : Option Addr) (oc j : Nat) (zs : List Int) (x : Int) (B : Nat) (Wc : World) (L : Nat → Bool) (v : Nat → Value) (W : World) : Prop where
  st : Below Wc.heap.size Wc W
  g3 : L 12 = false → v 3 = .slice oa zs.length oc
  f1 : Had L 1 (v 45 = .slice oa zs.length oc)
  f2 : Had L 2 (v 46 = .int .i64 (j : Int))
  f3 : Had L 3 (v 47 = sliced oa 0 j oc 1)
  f5 : Had L 5 (v 49 = .int .i64 x)
  f8 : Had L 8 (v 52 = .slice oa zs.length oc)
  f9 : Had L 9 (v 53 = .int .i64 (j : Int))
  f10 : Had L 10 (v 54 = sliced oa j zs.length oc 1)
  x0 : Had L 0 (L 4 = false → W.ownsRow Wc.heap.size 3 1 (v 44) 0 [])
  x6 : Had L 6 (L 7 = false → ∃ b c, v 50 = .slice (some ⟨b, 0, none⟩) 1 c ∧ W.cell? ⟨b, 0, none⟩ = some (.int .i64 x))
  ap : Had2 L 0 6 (L 4 = false → (v 44).ownBlock = none ∨ (v 44).ownBlock ≠ (v 50).ownBlock)
  x4 : Had L 4 (L 7 = false → W.ownsRow Wc.heap.size 3 1 (v 48) j (zrow (zs.take j)))
  x7 : Had L 7 (L 11 = false → W.ownsRow Wc.heap.size 3 1 (v 51) (j + 1) (zrow (zs.take j) ++ zrow [x]))
  x11 : Had L 11 (W.ownsRow Wc.heap.size 3 1 (v 55) (j + 1 + (zs.length - j)) (zrow (zs.take j) ++ zrow [x] ++ zrow (zs.drop j)))
  r12 : Had L 12 (v 3 = v 55)
  w3 : Had L 3 (∀ j ∈ [1, 2], L j = true)
  w4 : Had L 4 (∀ j ∈ [0, 3], L j = true)
  w6 : Had L 6 (∀ j ∈ [5], L j = true)
  w7 : Had L 7 (∀ j ∈ [4, 6], L j = true)
  w10 : Had L 10 (∀ j ∈ [8, 9], L j = true)
  w11 : Had L 11 (∀ j ∈ [7, 10], L j = true)
  w12 : Had L 12 (∀ j ∈ [0, 1, 2, 3, 4, 5, 6, 7, 8, 9, 10, 11], L j = true)
theorem own_new0 (W : World) (lo t : Nat) (h : lo ≤ W.heap.size) : (W.alloc (.cells #[] t)).ownsRow lo t 1 (.slice (some ⟨W.heap.size, 0, none⟩) 0 0) 0 [] :=
  ⟨rfl, .inr ⟨W.heap.size, 0, #[], rfl, h, heap_alloc_new W _, Nat.le_refl _, by unfold maxLen; omega, rfl, rfl⟩⟩
theorem cell_new0 (W : World) (x : Value) (t : Nat) : (W.alloc (.cells #[x] t)).cell? ⟨W.heap.size, 0, none⟩ = some x := by simp [go_sem]
theorem zrow_app (a b : List Int) : zrow (a ++ b) = zrow a ++ zrow b := by unfold zrow; exact List.map_append
theorem wp_slice_h {P : Program} {w : World} {o : Oper} {a : Act} {K : Act → World → Prop} {Q : Exit → Act → World → Prop} (t : TypeId) (x h : Operand) (ho : o.op = .slice t x none (some h) none) (ht : P.underlying t = some (.slice (P.elem t))) (i : TypeInfo) (hi : P.info? (P.elem t) = some i) (hs : i.size = 1)
    (ad : Option Addr) (len cap j : Nat) (hx : a.eval x = .slice ad len cap) (hh : a.eval h = .int .i64 (j : Int)) (hj : j ≤ cap) (hK : K (a.put o.dst (sliced ad 0 j cap 1)) w) : o.wp P a w K Q := by
  have e := run_slice_h (P := P) (w := w) t ad len cap ht .i64 (j : Int) (by omega) (by omega)
  rw [show (sizeOf (P.elem t)).run P w = .ok 1 w by simp [sizeOf, typeInfo, hi, hs]] at e
  simp only [Result.andThen_ok, Int.toNat_natCast] at e
  unfold Oper.wp execOp
  simp only [ho, Sem.run_bind, Sem.run_pure, Option.map_some, Option.map_none, hx, hh, run_sliceAt_slice (h := ht), e, Result.andThen_ok]
  exact hK
theorem wp_slice_l {P : Program} {w : World} {o : Oper} {a : Act} {K : Act → World → Prop} {Q : Exit → Act → World → Prop} (t : TypeId) (x h : Operand) (ho : o.op = .slice t x (some h) none none) (ht : P.underlying t = some (.slice (P.elem t))) (i : TypeInfo) (hi : P.info? (P.elem t) = some i) (hs : i.size = 1)
    (ad : Option Addr) (len cap j : Nat) (hx : a.eval x = .slice ad len cap) (hh : a.eval h = .int .i64 (j : Int)) (hj : j ≤ len) (hK : K (a.put o.dst (sliced ad j len cap 1)) w) : o.wp P a w K Q := by
  have e := run_slice_l (P := P) (w := w) t ad len cap ht .i64 (j : Int) (by omega) (by omega)
  rw [show (sizeOf (P.elem t)).run P w = .ok 1 w by simp [sizeOf, typeInfo, hi, hs]] at e
  simp only [Result.andThen_ok, Int.toNat_natCast] at e
  unfold Oper.wp execOp
  simp only [ho, Sem.run_bind, Sem.run_pure, Option.map_some, Option.map_none, hx, hh, run_sliceAt_slice (h := ht), e, Result.andThen_ok]
  exact hK
set_option maxRecDepth 100000 in
set_option maxHeartbeats 16000000 in
theorem rSums_any (ra : Option Addr) (n c : Nat) (f : Nat → Int) (w : World) (hr : IRow w ra n f) (hn : n ≤ 11) (hf : ∀ i, i < n → -1125899906842624 ≤ f i ∧ f i ≤ 1125899906842624) :
    Calls Tryd.prog 15 #[.slice ra n c] w fun e w' => Below w.heap.size w w' ∧ ∃ pa pc, e = .returned (.slice pa (allS f n).length pc) ∧ w'.ownsRow w.heap.size 3 1 (.slice pa (allS f n).length pc) (allS f n).length (zrow (allS f n)) := by
  have hN : 2 ^ n ≤ 2048 := Nat.le_trans (Nat.pow_le_pow_right (by decide) hn) (by decide)
  have h0 := Nat.two_pow_pos n
  have hc := p2_cast n
  have HR := Lib.hid hr
  have HF := Lib.hid hf
  have CS := fun t (ht : t < 9223372036854775808) W (hw : Below w.heap.size w W) => Lib.hid (rSum_any ra n c f t W (HR.out.on hw) (by omega) HF.out ht)
  have kn : IntKind.u64.wrap (n : Int) = (n : Int) := IntWalk.u64_in _ (by omega)
  have HDONE := Lib.hid (fun zs (h : SmI f n (2 ^ n) zs) => h.done)
  have S0 : Hid (Below w.heap.size w w ∧ w.ownsRow w.heap.size 3 1 (.slice none 0 0) ([] : List Int).length (zrow []) ∧ SmI f n 0 []) := ⟨Below.refl _ _, ⟨rfl, .inl ⟨rfl, rfl⟩⟩, ⟨List.Pairwise.nil, fun x => ⟨fun h => (by cases h), fun ⟨t, h, _⟩ => by omega⟩, by decide⟩⟩
  generalize hM : 2 ^ n = M at *
  have e1 : IntKind.i64.wrap (2 ^ n) = (M : Int) := by rw [hc, IntWalk.i64_in _ (by omega)]
  obtain ⟨i0, hi0, hz0, hz1, hz2⟩ := info_parts (show (Tryd.prog.info? 3).map (fun i => (i.zero, i.size, i.bytes)) = some (some (Value.int IntKind.i64 0), 1, 8) by kernel_rfl)
  have HI := Lib.hid (And.intro hi0 (And.intro hz0 (And.intro hz1 hz2)))
  clear hr hf hM hc hi0 hz0 hz1 hz2
  go_enter Tryd.func15, Tryd.ntmps15
  go_wp2_with fail
  go_loopg [4, 3] M (fun g s4 s3 wx => ∃ (k : Nat) (zs : List Int), s4 = .int .i64 k ∧ g = M - k ∧ k ≤ M ∧ Hid (Below w.heap.size w wx ∧ wx.ownsRow w.heap.size 3 1 s3 zs.length (zrow zs) ∧ SmI f n k zs))
  case atStart => exact ⟨0, [], rfl, rfl, Nat.zero_le _, S0⟩
  case round =>
    clear S0
    obtain ⟨k, zs, rfl, rfl, hk, S⟩ := hrel
    rename World => W1
    obtain ⟨oa, oc, hov⟩ := own_form S.out.2.1
    subst hov
    by_cases hlt : k < M
    · have wk : IntKind.i64.wrap ((k : Int) + 1) = ((k + 1 : Nat) : Int) := by rw [IntWalk.i64_in _ (by omega)]; omega
      have CSk := CS k (by omega) W1 S.out.1
      have HSM := Lib.hid S.out.2.2
      have HLN := S.out.2.2.len
      have HSB := Lib.hid S.out.1
      obtain ⟨x, hx⟩ : ∃ x, smS (bitR k) f n = x := ⟨_, rfl⟩
      rw [hx] at CSk
      have HX := Lib.hid hx
      clear hx
      have HZ : Hid (ZR W1 oa zs) := fun hn0 => by
        rcases S.out.2.1.2 with ⟨_, h0⟩ | ⟨g, cap, cur, hv, hb, hg, hcc, _⟩
        · omega
        · injection hv with z1 z2 z3
          subst z1
          refine ⟨g, rfl, (Array.getElem?_eq_some_iff.1 hg).1, fun j hj => ?_⟩
          have := S.out.2.1.cells (g := g) (by rfl) j (.int .i64 (nth zs j)) (by
            unfold zrow nth
            rw [List.getElem?_map, List.getElem?_eq_getElem hj, List.getD_eq_getElem?_getD, List.getElem?_eq_getElem hj]; rfl)
          rwa [show (⟨g, 0, none⟩ : Addr).add j = ⟨g, j, none⟩ by unfold Addr.add; split <;> simp_all] at this
      have HCP : zs.length ≤ oc := by
        rcases S.out.2.1.2 with ⟨e, h0⟩ | ⟨g, cap, cur, hv, hb, hg, hcc, _⟩
        · omega
        · injection hv with z1 z2 z3
          omega
      have HSRT : Hid (∀ i j, i < j → j < zs.length → nth zs i < nth zs j) := fun i j hij hj => by
        unfold nth
        rw [List.getD_eq_getElem?_getD, List.getElem?_eq_getElem (by omega), List.getD_eq_getElem?_getD, List.getElem?_eq_getElem hj]
        exact (List.pairwise_iff_getElem.1 HSM.out.asc) i j (by omega) hj hij
      go_upto_region 7 with (go_at_call 48; (with_reducible refine ((CSk.out).mono ?_)); rintro e w3 ⟨rfl, rfl⟩)
      have T0 : Hid (∀ i, i < 0 → nth zs i < x) := fun i h => by omega
      go_loopg [6] zs.length (fun g s6 wx => ∃ j : Nat, s6 = .int .i64 j ∧ g = zs.length - j ∧ j ≤ zs.length ∧ wx = W1 ∧ Hid (∀ i, i < j → nth zs i < x))
      case atStart => exact ⟨0, rfl, rfl, Nat.zero_le _, rfl, T0⟩
      case round =>
        clear T0
        obtain ⟨j, rfl, rfl, hj, rfl, T⟩ := hrel
        rename World => W1
        by_cases hjl : j < zs.length
        · have wj : IntKind.i64.wrap ((j : Int) + 1) = ((j + 1 : Nat) : Int) := by rw [IntWalk.i64_in _ (by omega)]; omega
          obtain ⟨zg, rfl, hzg, hzc⟩ := HZ.out (by omega)
          have p1 := hzc j hjl
          obtain ⟨y, hy⟩ : ∃ y, nth zs j = y := ⟨_, rfl⟩
          rw [hy] at p1
          have lj : (j : Int) < (zs.length : Int) := by omega
          have ne1 : ((j : Int) == (zs.length : Int)) = false := by simp; omega
          have ne2 : (j == zs.length) = false := by simp; omega
          by_cases hyx : y < x
          · have qyx : decide (y < x) = true := decide_eq_true hyx
            have T2 : Hid (∀ i, i < j + 1 → nth zs i < x) := fun i h => by
              by_cases q : i = j
              · rw [q, hy]; exact hyx
              · exact T.out i (by omega)
            clear T hzc hzg hy
            go_wp2_with fail
            go_roundg (zs.length - (j + 1))
            case measure => omega
            case rel => exact ⟨j + 1, rfl, rfl, by omega, rfl, T2⟩
          · have qyx : decide (y < x) = false := decide_eq_false hyx
            by_cases hye : y = x
            · have q1 : (y != x) = false := by simp [hye]
              have T2 : Hid (SmI f n (k + 1) zs) := HSM.out.same (by
                rw [HX.out, ← hye, ← hy]
                unfold nth
                rw [List.getD_eq_getElem?_getD, List.getElem?_eq_getElem hjl]
                exact List.getElem_mem hjl)
              have TB := Lib.hid S.out.1
              have TO := Lib.hid S.out.2.1
              clear T hzc hzg hy hye S
              go_wp2_with fail
              go_roundg (M - (k + 1))
              case measure => omega
              case rel => exact ⟨k + 1, zs, rfl, rfl, by omega, TB.out, TO.out, T2.out⟩
            · have q1 : (y != x) = true := by simpa using hye
              have HP1 : Hid (∀ y ∈ zs.take j, y < x) := fun u hu => by
                obtain ⟨i, hi, rfl⟩ := List.getElem_of_mem hu
                rw [List.length_take] at hi
                have := T.out i (by omega)
                unfold nth at this
                rw [List.getD_eq_getElem?_getD, List.getElem?_eq_getElem (by omega)] at this
                simpa using this
              have HP2 : Hid (∀ y ∈ zs.drop j, x < y) := fun u hu => by
                obtain ⟨i, hi, rfl⟩ := List.getElem_of_mem hu
                rw [List.length_drop] at hi
                rw [List.getElem_drop]
                have hj2 : x < nth zs j := by rw [hy]; omega
                have h3 : nth zs j ≤ nth zs (j + i) := by
                  rcases Nat.eq_zero_or_pos i with q | q
                  · subst q; exact Int.le_refl _
                  · exact Int.le_of_lt (HSRT.out j (j + i) (by omega) (by omega))
                have h4 : nth zs (j + i) = zs[j + i] := by
                  unfold nth
                  rw [List.getD_eq_getElem?_getD, List.getElem?_eq_getElem (by omega)]; rfl
                omega
              clear T hzc hzg hy hye hyx
              go_upto_region 10 with fail
              refine wp_region_each (fun L A W => ∃ (v : Nat → Value), A = ⟨#[_, _, _, v 3, _, _, _, _, _, _, _, _, _, _, _, _, _, _, _, _, _, _, _, _, _, _, _, _, _, _, _, _, _, _, _, _, _, _, _, _, _, _, _, _, v 44, v 45, v 46, v 47, v 48, v 49, v 50, v 51, v 52, v 53, v 54, v 55, _], []⟩ ∧ PutR (some ⟨zg, 0, none⟩) oc j zs x W1.heap.size W1 L v W) (by kernel_rfl) (by kernel_rfl) ⟨fun jz => if jz = 3 then .slice (some ⟨zg, 0, none⟩) zs.length oc else if jz = 44 then u44 else if jz = 45 then u45 else if jz = 46 then u46 else if jz = 47 then u47 else if jz = 48 then u48 else if jz = 49 then u49 else if jz = 50 then u50 else if jz = 51 then u51 else if jz = 52 then u52 else if jz = 53 then u53 else if jz = 54 then u54 else if jz = 55 then u55 else undef, rfl, ⟨Below.drew (Below.refl _ _), fun _ => rfl, Had.none, Had.none, Had.none, Had.none, Had.none, Had.none, Had.none, Had.none, Had.none, (fun h => by cases h), Had.none, Had.none, Had.none, Had.none, Had.none, Had.none, Had.none, Had.none, Had.none, Had.none, Had.none⟩⟩ (rs := [0, 1, 2, 3, 4, 5, 6, 7, 8, 9, 10, 11, 12]) (by kernel_rfl) ?_ ?_
              · refine EachOf.cons [] rfl (by kernel_rfl) ?_ ?_
                · rintro L A W ⟨v, rfl, hR⟩ hi hw K hK
                  go_simp
                  refine hK.out _ _ ?_
                  have hal : Below W.heap.size W (W.alloc (Obj.cells #[] 3)) := (Below.refl _ _).alloc (Nat.le_refl _) _
                  have hbel : Below W1.heap.size W1 (W.alloc (Obj.cells #[] 3)) := below_on hR.st hal
                  have h4f : L 4 = false := hR.w4.not hi rfl
                  have h7f : L 7 = false := hR.w7.not h4f rfl
                  have h11f : L 11 = false := hR.w11.not h7f rfl
                  exact ⟨(fun jz => if jz = 44 then .slice (some ⟨W.heap.size, 0, none⟩) 0 0 else v jz), rfl, ⟨hbel, (fun h => hR.g3 (upd_false h)), hR.f1.k, hR.f2.k, hR.f3.k, hR.f5.k, hR.f8.k, hR.f9.k, hR.f10.k, (fun _ _ => own_new0 W _ _ hR.st.size), (fun h h7 => by obtain ⟨b, c6, e6, hB⟩ := hR.x6 (upd_back h rfl) (upd_false h7); exact ⟨b, c6, e6, (hal.cell (World.block_lt_of_cell? W _ hB)).trans hB⟩), (fun _ h6 _ => .inr (by obtain ⟨b, c6, e6, hB⟩ := hR.x6 (upd_back h6 rfl) h7f; intro e; have e2 : some W.heap.size = (v 50).ownBlock := e; rw [e6] at e2; injection e2 with e2; have e3 : W.heap.size = b := e2; have h9 : b < W.heap.size := World.block_lt_of_cell? W _ hB; omega)), (fun h => absurd (upd_back h rfl) (by simp [h4f])), (fun h => absurd (upd_back h rfl) (by simp [h7f])), (fun h => absurd (upd_back h rfl) (by simp [h11f])), hR.r12.k, hR.w3.o, hR.w4.o, hR.w6.o, hR.w7.o, hR.w10.o, hR.w11.o, hR.w12.o⟩⟩
                refine EachOf.cons [] rfl (by kernel_rfl) ?_ ?_
                · rintro L A W ⟨v, rfl, hR⟩ hi hw K hK
                  have h12f : L 12 = false := hR.w12.not hi rfl
                  have e3 := hR.g3 h12f
                  simp only [e3]
                  clear e3
                  go_simp
                  refine hK.out _ _ ?_
                  exact ⟨(fun jz => if jz = 3 then .slice (some ⟨zg, 0, none⟩) zs.length oc else if jz = 45 then .slice (some ⟨zg, 0, none⟩) zs.length oc else v jz), rfl, ⟨hR.st, (fun _ => rfl), (fun _ => rfl), hR.f2.k, hR.f3.k, hR.f5.k, hR.f8.k, hR.f9.k, hR.f10.k, hR.x0.keepM rfl (fun h hx => h (upd_false hx)), hR.x6.keepM rfl (fun h hx => h (upd_false hx)), (fun h0 h6 h4 => hR.ap (upd_back h0 rfl) (upd_back h6 rfl) (upd_false h4)), hR.x4.keepM rfl (fun h hx => h (upd_false hx)), hR.x7.keepM rfl (fun h hx => h (upd_false hx)), hR.x11.k, (fun h => absurd (upd_back h rfl) (by simp [h12f])), hR.w3.o, hR.w4.o, hR.w6.o, hR.w7.o, hR.w10.o, hR.w11.o, hR.w12.o⟩⟩
                refine EachOf.cons [] rfl (by kernel_rfl) ?_ ?_
                · rintro L A W ⟨v, rfl, hR⟩ hi hw K hK
                  go_simp
                  refine hK.out _ _ ?_
                  exact ⟨(fun jz => if jz = 46 then .int .i64 (j : Int) else v jz), rfl, ⟨hR.st, (fun h => hR.g3 (upd_false h)), hR.f1.k, (fun _ => rfl), hR.f3.k, hR.f5.k, hR.f8.k, hR.f9.k, hR.f10.k, hR.x0.keepM rfl (fun h hx => h (upd_false hx)), hR.x6.keepM rfl (fun h hx => h (upd_false hx)), (fun h0 h6 h4 => hR.ap (upd_back h0 rfl) (upd_back h6 rfl) (upd_false h4)), hR.x4.keepM rfl (fun h hx => h (upd_false hx)), hR.x7.keepM rfl (fun h hx => h (upd_false hx)), hR.x11.k, hR.r12.k, hR.w3.o, hR.w4.o, hR.w6.o, hR.w7.o, hR.w10.o, hR.w11.o, hR.w12.o⟩⟩
                refine EachOf.cons [1, 2] rfl (by kernel_rfl) ?_ ?_
                · rintro L A W ⟨v, rfl, hR⟩ hi hw K hK
                  have e1 := hR.f1 (hw 1 (by simp))
                  have e2 := hR.f2 (hw 2 (by simp))
                  simp only [e1, e2]
                  clear e1 e2
                  simp only [List.getElem_toArray, List.getElem_cons_succ, List.getElem_cons_zero]
                  rw [if_pos (show Region.wanted _ _ = true by rfl)]
                  refine wp_slice_h 22 _ _ (by rfl) Tryd.underlying22 i0 HI.out.1 HI.out.2.2.1 (some ⟨zg, 0, none⟩) zs.length oc j (by rfl) (by rfl) (by omega) ?_
                  refine hK.out _ _ ?_
                  exact ⟨(fun jz => if jz = 45 then .slice (some ⟨zg, 0, none⟩) zs.length oc else if jz = 46 then .int .i64 (j : Int) else if jz = 47 then sliced (some ⟨zg, 0, none⟩) 0 j oc 1 else v jz), rfl, ⟨hR.st, (fun h => hR.g3 (upd_false h)), (fun _ => rfl), (fun _ => rfl), (fun _ => rfl), hR.f5.k, hR.f8.k, hR.f9.k, hR.f10.k, hR.x0.keepM rfl (fun h hx => h (upd_false hx)), hR.x6.keepM rfl (fun h hx => h (upd_false hx)), (fun h0 h6 h4 => hR.ap (upd_back h0 rfl) (upd_back h6 rfl) (upd_false h4)), hR.x4.keepM rfl (fun h hx => h (upd_false hx)), hR.x7.keepM rfl (fun h hx => h (upd_false hx)), hR.x11.k, hR.r12.k, (fun _ j hj => upd_on (hw j hj)), hR.w4.o, hR.w6.o, hR.w7.o, hR.w10.o, hR.w11.o, hR.w12.o⟩⟩
                refine EachOf.cons [0, 3] rfl (by kernel_rfl) ?_ ?_
                · rintro L A W ⟨v, rfl, hR⟩ hi hw K hK
                  have e3 := hR.f3 (hw 3 (by simp))
                  simp only [e3]
                  clear e3
                  have h7f : L 7 = false := hR.w7.not hi rfl
                  have h11f : L 11 = false := hR.w11.not h7f rfl
                  have ho := (hR.x0 (hw 0 (by simp)) hi)
                  simp only [List.getElem_toArray, List.getElem_cons_succ, List.getElem_cons_zero]
                  rw [if_pos (show Region.wanted _ _ = true by rfl)]
                  refine wp_app_any (.tmp 44) (.tmp 47) 22 (by rfl) W1.heap.size 3 i0 (.int .i64 0) 8 Tryd.underlying22 HI.out.1 HI.out.2.1 HI.out.2.2.1 HI.out.2.2.2 rfl (v 44) 0 [] (by rfl) ho j (zrow (zs.take j)) ((HZ.out.on hR.st).srcH hj HCP) (by unfold maxLen; omega) (by omega) hR.st.size ?_
                  intro v2 w2 hown hgrow
                  have hbel := below_grown hR.st ho hgrow
                  have x6n : L 6 = true → ∃ b c, v 50 = .slice (some ⟨b, 0, none⟩) 1 c ∧ w2.cell? ⟨b, 0, none⟩ = some (.int .i64 x) := fun h6 => by
                    obtain ⟨b, c6, e6, hB⟩ := hR.x6 h6 h7f
                    refine ⟨b, c6, e6, hgrow.cell hB ?_⟩
                    rcases hR.ap (hw 0 (by simp)) h6 hi with q | q
                    · rw [q]; simp
                    · intro e; exact q (by rw [← e, e6]; rfl)
                  refine hK.out _ _ ?_
                  exact ⟨(fun jz => if jz = 47 then sliced (some ⟨zg, 0, none⟩) 0 j oc 1 else if jz = 48 then v2 else v jz), rfl, ⟨hbel, (fun h => hR.g3 (upd_false h)), hR.f1.k, hR.f2.k, (fun _ => rfl), hR.f5.k, hR.f8.k, hR.f9.k, hR.f10.k, (fun _ h => by simp [upd_self] at h), (fun h h7 => x6n (upd_back h rfl)), (fun _ _ h => by simp [upd_self] at h), (fun _ _ => by simpa using hown), (fun h => absurd (upd_back h rfl) (by simp [h7f])), (fun h => absurd (upd_back h rfl) (by simp [h11f])), hR.r12.k, hR.w3.o, (fun _ j hj => upd_on (hw j hj)), hR.w6.o, hR.w7.o, hR.w10.o, hR.w11.o, hR.w12.o⟩⟩
                refine EachOf.cons [] rfl (by kernel_rfl) ?_ ?_
                · rintro L A W ⟨v, rfl, hR⟩ hi hw K hK
                  go_simp
                  refine hK.out _ _ ?_
                  exact ⟨(fun jz => if jz = 49 then .int .i64 x else v jz), rfl, ⟨hR.st, (fun h => hR.g3 (upd_false h)), hR.f1.k, hR.f2.k, hR.f3.k, (fun _ => rfl), hR.f8.k, hR.f9.k, hR.f10.k, hR.x0.keepM rfl (fun h hx => h (upd_false hx)), hR.x6.keepM rfl (fun h hx => h (upd_false hx)), (fun h0 h6 h4 => hR.ap (upd_back h0 rfl) (upd_back h6 rfl) (upd_false h4)), hR.x4.keepM rfl (fun h hx => h (upd_false hx)), hR.x7.keepM rfl (fun h hx => h (upd_false hx)), hR.x11.k, hR.r12.k, hR.w3.o, hR.w4.o, hR.w6.o, hR.w7.o, hR.w10.o, hR.w11.o, hR.w12.o⟩⟩
                refine EachOf.cons [5] rfl (by kernel_rfl) ?_ ?_
                · rintro L A W ⟨v, rfl, hR⟩ hi hw K hK
                  have e5 := hR.f5 (hw 5 (by simp))
                  simp only [e5]
                  clear e5
                  go_simp
                  refine hK.out _ _ ?_
                  have hal : Below W.heap.size W (W.alloc (Obj.cells #[.int .i64 x] 3)) := (Below.refl _ _).alloc (Nat.le_refl _) _
                  have hbel : Below W1.heap.size W1 (W.alloc (Obj.cells #[.int .i64 x] 3)) := below_on hR.st hal
                  have h7f : L 7 = false := hR.w7.not hi rfl
                  have h11f : L 11 = false := hR.w11.not h7f rfl
                  exact ⟨(fun jz => if jz = 49 then .int .i64 x else if jz = 50 then .slice (some ⟨W.heap.size, 0, none⟩) 1 1 else v jz), rfl, ⟨hbel, (fun h => hR.g3 (upd_false h)), hR.f1.k, hR.f2.k, hR.f3.k, (fun _ => rfl), hR.f8.k, hR.f9.k, hR.f10.k, hR.x0.keepM rfl (fun h hx => (h (upd_false hx)).alloc _), (fun _ _ => ⟨W.heap.size, 1, rfl, cell_new0 W _ _⟩), (fun h0 _ h4 => by have q := hR.x0 (upd_back h0 rfl) (upd_false h4); cases hq : (v 44).ownBlock with | none => exact .inl hq | some b => refine .inr ?_; intro e; have := (q.lt b hq).2; have e2 : (v 44).ownBlock = some W.heap.size := e; rw [hq] at e2; injection e2 with e2; omega), hR.x4.keepM rfl (fun h hx => (h (upd_false hx)).alloc _), (fun h => absurd (upd_back h rfl) (by simp [h7f])), (fun h => absurd (upd_back h rfl) (by simp [h11f])), hR.r12.k, hR.w3.o, hR.w4.o, (fun _ j hj => upd_on (hw j hj)), hR.w7.o, hR.w10.o, hR.w11.o, hR.w12.o⟩⟩
                refine EachOf.cons [4, 6] rfl (by kernel_rfl) ?_ ?_
                · rintro L A W ⟨v, rfl, hR⟩ hi hw K hK
                  have h11f : L 11 = false := hR.w11.not hi rfl
                  have ho := (hR.x4 (hw 4 (by simp)) hi)
                  obtain ⟨b, c6, e6, hB⟩ := hR.x6 (hw 6 (by simp)) hi
                  simp only [e6]
                  simp only [List.getElem_toArray, List.getElem_cons_succ, List.getElem_cons_zero]
                  rw [if_pos (show Region.wanted _ _ = true by rfl)]
                  refine wp_app_any (.tmp 48) (.tmp 50) 22 (by rfl) W1.heap.size 3 i0 (.int .i64 0) 8 Tryd.underlying22 HI.out.1 HI.out.2.1 HI.out.2.2.1 HI.out.2.2.2 rfl (v 48) j (zrow (zs.take j)) (by rfl) ho 1 (zrow [x]) (SrcV.one hB) (by unfold maxLen; omega) (by omega) hR.st.size ?_
                  intro v2 w2 hown hgrow
                  have hbel := below_grown hR.st ho hgrow
                  refine hK.out _ _ ?_
                  exact ⟨(fun jz => if jz = 50 then .slice (some ⟨b, 0, none⟩) 1 c6 else if jz = 51 then v2 else v jz), rfl, ⟨hbel, (fun h => hR.g3 (upd_false h)), hR.f1.k, hR.f2.k, hR.f3.k, hR.f5.k, hR.f8.k, hR.f9.k, hR.f10.k, (fun _ h => absurd (hw 4 (by simp)) (by simp [upd_false h])), (fun _ h => by simp [upd_self] at h), (fun _ _ h => absurd (hw 4 (by simp)) (by simp [upd_false h])), (fun _ h => by simp [upd_self] at h), (fun _ _ => hown), (fun h => absurd (upd_back h rfl) (by simp [h11f])), hR.r12.k, hR.w3.o, hR.w4.o, hR.w6.o, (fun _ j hj => upd_on (hw j hj)), hR.w10.o, hR.w11.o, hR.w12.o⟩⟩
                refine EachOf.cons [] rfl (by kernel_rfl) ?_ ?_
                · rintro L A W ⟨v, rfl, hR⟩ hi hw K hK
                  have h12f : L 12 = false := hR.w12.not hi rfl
                  have e3 := hR.g3 h12f
                  simp only [e3]
                  clear e3
                  go_simp
                  refine hK.out _ _ ?_
                  exact ⟨(fun jz => if jz = 3 then .slice (some ⟨zg, 0, none⟩) zs.length oc else if jz = 52 then .slice (some ⟨zg, 0, none⟩) zs.length oc else v jz), rfl, ⟨hR.st, (fun _ => rfl), hR.f1.k, hR.f2.k, hR.f3.k, hR.f5.k, (fun _ => rfl), hR.f9.k, hR.f10.k, hR.x0.keepM rfl (fun h hx => h (upd_false hx)), hR.x6.keepM rfl (fun h hx => h (upd_false hx)), (fun h0 h6 h4 => hR.ap (upd_back h0 rfl) (upd_back h6 rfl) (upd_false h4)), hR.x4.keepM rfl (fun h hx => h (upd_false hx)), hR.x7.keepM rfl (fun h hx => h (upd_false hx)), hR.x11.k, (fun h => absurd (upd_back h rfl) (by simp [h12f])), hR.w3.o, hR.w4.o, hR.w6.o, hR.w7.o, hR.w10.o, hR.w11.o, hR.w12.o⟩⟩
                refine EachOf.cons [] rfl (by kernel_rfl) ?_ ?_
                · rintro L A W ⟨v, rfl, hR⟩ hi hw K hK
                  go_simp
                  refine hK.out _ _ ?_
                  exact ⟨(fun jz => if jz = 53 then .int .i64 (j : Int) else v jz), rfl, ⟨hR.st, (fun h => hR.g3 (upd_false h)), hR.f1.k, hR.f2.k, hR.f3.k, hR.f5.k, hR.f8.k, (fun _ => rfl), hR.f10.k, hR.x0.keepM rfl (fun h hx => h (upd_false hx)), hR.x6.keepM rfl (fun h hx => h (upd_false hx)), (fun h0 h6 h4 => hR.ap (upd_back h0 rfl) (upd_back h6 rfl) (upd_false h4)), hR.x4.keepM rfl (fun h hx => h (upd_false hx)), hR.x7.keepM rfl (fun h hx => h (upd_false hx)), hR.x11.k, hR.r12.k, hR.w3.o, hR.w4.o, hR.w6.o, hR.w7.o, hR.w10.o, hR.w11.o, hR.w12.o⟩⟩
                refine EachOf.cons [8, 9] rfl (by kernel_rfl) ?_ ?_
                · rintro L A W ⟨v, rfl, hR⟩ hi hw K hK
                  have e8 := hR.f8 (hw 8 (by simp))
                  have e9 := hR.f9 (hw 9 (by simp))
                  simp only [e8, e9]
                  clear e8 e9
                  simp only [List.getElem_toArray, List.getElem_cons_succ, List.getElem_cons_zero]
                  rw [if_pos (show Region.wanted _ _ = true by rfl)]
                  refine wp_slice_l 22 _ _ (by rfl) Tryd.underlying22 i0 HI.out.1 HI.out.2.2.1 (some ⟨zg, 0, none⟩) zs.length oc j (by rfl) (by rfl) (by omega) ?_
                  refine hK.out _ _ ?_
                  exact ⟨(fun jz => if jz = 52 then .slice (some ⟨zg, 0, none⟩) zs.length oc else if jz = 53 then .int .i64 (j : Int) else if jz = 54 then sliced (some ⟨zg, 0, none⟩) j zs.length oc 1 else v jz), rfl, ⟨hR.st, (fun h => hR.g3 (upd_false h)), hR.f1.k, hR.f2.k, hR.f3.k, hR.f5.k, (fun _ => rfl), (fun _ => rfl), (fun _ => rfl), hR.x0.keepM rfl (fun h hx => h (upd_false hx)), hR.x6.keepM rfl (fun h hx => h (upd_false hx)), (fun h0 h6 h4 => hR.ap (upd_back h0 rfl) (upd_back h6 rfl) (upd_false h4)), hR.x4.keepM rfl (fun h hx => h (upd_false hx)), hR.x7.keepM rfl (fun h hx => h (upd_false hx)), hR.x11.k, hR.r12.k, hR.w3.o, hR.w4.o, hR.w6.o, hR.w7.o, (fun _ j hj => upd_on (hw j hj)), hR.w11.o, hR.w12.o⟩⟩
                refine EachOf.cons [7, 10] rfl (by kernel_rfl) ?_ ?_
                · rintro L A W ⟨v, rfl, hR⟩ hi hw K hK
                  have e10 := hR.f10 (hw 10 (by simp))
                  simp only [e10]
                  clear e10
                  have h12f : L 12 = false := hR.w12.not hi rfl
                  have h7t := hw 7 (by simp)
                  have h4t : L 4 = true := hR.w7 h7t 4 (by simp)
                  have ho := (hR.x7 (hw 7 (by simp)) hi)
                  simp only [List.getElem_toArray, List.getElem_cons_succ, List.getElem_cons_zero]
                  rw [if_pos (show Region.wanted _ _ = true by rfl)]
                  refine wp_app_any (.tmp 51) (.tmp 54) 22 (by rfl) W1.heap.size 3 i0 (.int .i64 0) 8 Tryd.underlying22 HI.out.1 HI.out.2.1 HI.out.2.2.1 HI.out.2.2.2 rfl (v 51) (j + 1) (zrow (zs.take j) ++ zrow [x]) (by rfl) ho (zs.length - j) (zrow (zs.drop j)) ((HZ.out.on hR.st).srcL hj HCP) (by unfold maxLen; omega) (by omega) hR.st.size ?_
                  intro v2 w2 hown hgrow
                  have hbel := below_grown hR.st ho hgrow
                  refine hK.out _ _ ?_
                  exact ⟨(fun jz => if jz = 54 then sliced (some ⟨zg, 0, none⟩) j zs.length oc 1 else if jz = 55 then v2 else v jz), rfl, ⟨hbel, (fun h => hR.g3 (upd_false h)), hR.f1.k, hR.f2.k, hR.f3.k, hR.f5.k, hR.f8.k, hR.f9.k, (fun _ => rfl), (fun _ h => absurd h4t (by simp [upd_false h])), (fun _ h => absurd h7t (by simp [upd_false h])), (fun _ _ h => absurd h4t (by simp [upd_false h])), (fun _ h => absurd h7t (by simp [upd_false h])), (fun _ h => by simp [upd_self] at h), (fun _ => hown), (fun h => absurd (upd_back h rfl) (by simp [h12f])), hR.w3.o, hR.w4.o, hR.w6.o, hR.w7.o, hR.w10.o, (fun _ j hj => upd_on (hw j hj)), hR.w12.o⟩⟩
                refine EachOf.cons [0, 1, 2, 3, 4, 5, 6, 7, 8, 9, 10, 11] rfl (by kernel_rfl) ?_ ?_
                · rintro L A W ⟨v, rfl, hR⟩ hi hw K hK
                  go_simp
                  refine hK.out _ _ ?_
                  exact ⟨(fun jz => if jz = 3 then v 55 else v jz), rfl, ⟨hR.st, (fun h => by simp [upd_self] at h), hR.f1.k, hR.f2.k, hR.f3.k, hR.f5.k, hR.f8.k, hR.f9.k, hR.f10.k, hR.x0.keepM rfl (fun h hx => h (upd_false hx)), hR.x6.keepM rfl (fun h hx => h (upd_false hx)), (fun h0 h6 h4 => hR.ap (upd_back h0 rfl) (upd_back h6 rfl) (upd_false h4)), hR.x4.keepM rfl (fun h hx => h (upd_false hx)), hR.x7.keepM rfl (fun h hx => h (upd_false hx)), hR.x11.k, (fun _ => rfl), hR.w3.o, hR.w4.o, hR.w6.o, hR.w7.o, hR.w10.o, hR.w11.o, (fun _ j hj => upd_on (hw j hj))⟩⟩
                exact EachOf.nil
              · rintro L A W ⟨v, rfl, hR⟩ hall
                have h3 := hR.r12 (hall 12 (by simp))
                have ho := hR.x11 (hall 11 (by simp))
                have hst := hR.st
                rw [← zrow_app, ← zrow_app, ← h3] at ho
                have elen : (zs.take j ++ [x] ++ zs.drop j).length = j + 1 + (zs.length - j) := by
                  rw [List.length_append, List.length_append, List.length_take, List.length_drop, Nat.min_eq_left hj]; rfl
                rw [← elen] at ho
                have TT : Hid (Below w.heap.size w W ∧ W.ownsRow w.heap.size 3 1 (v 3) (zs.take j ++ [x] ++ zs.drop j).length (zrow (zs.take j ++ [x] ++ zs.drop j)) ∧ SmI f n (k + 1) (zs.take j ++ [x] ++ zs.drop j)) := ⟨below_on HSB.out hst, own_mono ho HSB.out.size, HSM.out.put HX.out HP1.out HP2.out⟩
                clear hR h3 ho hst elen hall
                go_wp2_with fail
                go_roundg (M - (k + 1))
                case measure => omega
                case rel => exact ⟨k + 1, _, rfl, rfl, by omega, TT.out⟩
        · have e : j = zs.length := by omega
          have ne1 : ((j : Int) == (zs.length : Int)) = true := by simp; omega
          have lj : ¬ (j : Int) < (zs.length : Int) := by omega
          have HP1 : Hid (∀ y ∈ zs.take j, y < x) := fun u hu => by
            obtain ⟨i, hi, rfl⟩ := List.getElem_of_mem hu
            rw [List.length_take] at hi
            have := T.out i (by omega)
            unfold nth at this
            rw [List.getD_eq_getElem?_getD, List.getElem?_eq_getElem (by omega)] at this
            simpa using this
          have HP2 : Hid (∀ y ∈ zs.drop j, x < y) := fun u hu => by
            rw [e, List.drop_length] at hu; cases hu
          clear T e
          go_upto_region 10 with fail
          refine wp_region_each (fun L A W => ∃ (v : Nat → Value), A = ⟨#[_, _, _, v 3, _, _, _, _, _, _, _, _, _, _, _, _, _, _, _, _, _, _, _, _, _, _, _, _, _, _, _, _, _, _, _, _, _, _, _, _, _, _, _, _, v 44, v 45, v 46, v 47, v 48, v 49, v 50, v 51, v 52, v 53, v 54, v 55, _], []⟩ ∧ PutR oa oc j zs x W1.heap.size W1 L v W) (by kernel_rfl) (by kernel_rfl) ⟨fun jz => if jz = 3 then .slice oa zs.length oc else if jz = 44 then u44 else if jz = 45 then u45 else if jz = 46 then u46 else if jz = 47 then u47 else if jz = 48 then u48 else if jz = 49 then u49 else if jz = 50 then u50 else if jz = 51 then u51 else if jz = 52 then u52 else if jz = 53 then u53 else if jz = 54 then u54 else if jz = 55 then u55 else undef, rfl, ⟨Below.drew (Below.refl _ _), fun _ => rfl, Had.none, Had.none, Had.none, Had.none, Had.none, Had.none, Had.none, Had.none, Had.none, (fun h => by cases h), Had.none, Had.none, Had.none, Had.none, Had.none, Had.none, Had.none, Had.none, Had.none, Had.none, Had.none⟩⟩ (rs := [0, 1, 2, 3, 4, 5, 6, 7, 8, 9, 10, 11, 12]) (by kernel_rfl) ?_ ?_
          · refine EachOf.cons [] rfl (by kernel_rfl) ?_ ?_
            · rintro L A W ⟨v, rfl, hR⟩ hi hw K hK
              go_simp
              refine hK.out _ _ ?_
              have hal : Below W.heap.size W (W.alloc (Obj.cells #[] 3)) := (Below.refl _ _).alloc (Nat.le_refl _) _
              have hbel : Below W1.heap.size W1 (W.alloc (Obj.cells #[] 3)) := below_on hR.st hal
              have h4f : L 4 = false := hR.w4.not hi rfl
              have h7f : L 7 = false := hR.w7.not h4f rfl
              have h11f : L 11 = false := hR.w11.not h7f rfl
              exact ⟨(fun jz => if jz = 44 then .slice (some ⟨W.heap.size, 0, none⟩) 0 0 else v jz), rfl, ⟨hbel, (fun h => hR.g3 (upd_false h)), hR.f1.k, hR.f2.k, hR.f3.k, hR.f5.k, hR.f8.k, hR.f9.k, hR.f10.k, (fun _ _ => own_new0 W _ _ hR.st.size), (fun h h7 => by obtain ⟨b, c6, e6, hB⟩ := hR.x6 (upd_back h rfl) (upd_false h7); exact ⟨b, c6, e6, (hal.cell (World.block_lt_of_cell? W _ hB)).trans hB⟩), (fun _ h6 _ => .inr (by obtain ⟨b, c6, e6, hB⟩ := hR.x6 (upd_back h6 rfl) h7f; intro e; have e2 : some W.heap.size = (v 50).ownBlock := e; rw [e6] at e2; injection e2 with e2; have e3 : W.heap.size = b := e2; have h9 : b < W.heap.size := World.block_lt_of_cell? W _ hB; omega)), (fun h => absurd (upd_back h rfl) (by simp [h4f])), (fun h => absurd (upd_back h rfl) (by simp [h7f])), (fun h => absurd (upd_back h rfl) (by simp [h11f])), hR.r12.k, hR.w3.o, hR.w4.o, hR.w6.o, hR.w7.o, hR.w10.o, hR.w11.o, hR.w12.o⟩⟩
            refine EachOf.cons [] rfl (by kernel_rfl) ?_ ?_
            · rintro L A W ⟨v, rfl, hR⟩ hi hw K hK
              have h12f : L 12 = false := hR.w12.not hi rfl
              have e3 := hR.g3 h12f
              simp only [e3]
              clear e3
              go_simp
              refine hK.out _ _ ?_
              exact ⟨(fun jz => if jz = 3 then .slice oa zs.length oc else if jz = 45 then .slice oa zs.length oc else v jz), rfl, ⟨hR.st, (fun _ => rfl), (fun _ => rfl), hR.f2.k, hR.f3.k, hR.f5.k, hR.f8.k, hR.f9.k, hR.f10.k, hR.x0.keepM rfl (fun h hx => h (upd_false hx)), hR.x6.keepM rfl (fun h hx => h (upd_false hx)), (fun h0 h6 h4 => hR.ap (upd_back h0 rfl) (upd_back h6 rfl) (upd_false h4)), hR.x4.keepM rfl (fun h hx => h (upd_false hx)), hR.x7.keepM rfl (fun h hx => h (upd_false hx)), hR.x11.k, (fun h => absurd (upd_back h rfl) (by simp [h12f])), hR.w3.o, hR.w4.o, hR.w6.o, hR.w7.o, hR.w10.o, hR.w11.o, hR.w12.o⟩⟩
            refine EachOf.cons [] rfl (by kernel_rfl) ?_ ?_
            · rintro L A W ⟨v, rfl, hR⟩ hi hw K hK
              go_simp
              refine hK.out _ _ ?_
              exact ⟨(fun jz => if jz = 46 then .int .i64 (j : Int) else v jz), rfl, ⟨hR.st, (fun h => hR.g3 (upd_false h)), hR.f1.k, (fun _ => rfl), hR.f3.k, hR.f5.k, hR.f8.k, hR.f9.k, hR.f10.k, hR.x0.keepM rfl (fun h hx => h (upd_false hx)), hR.x6.keepM rfl (fun h hx => h (upd_false hx)), (fun h0 h6 h4 => hR.ap (upd_back h0 rfl) (upd_back h6 rfl) (upd_false h4)), hR.x4.keepM rfl (fun h hx => h (upd_false hx)), hR.x7.keepM rfl (fun h hx => h (upd_false hx)), hR.x11.k, hR.r12.k, hR.w3.o, hR.w4.o, hR.w6.o, hR.w7.o, hR.w10.o, hR.w11.o, hR.w12.o⟩⟩
            refine EachOf.cons [1, 2] rfl (by kernel_rfl) ?_ ?_
            · rintro L A W ⟨v, rfl, hR⟩ hi hw K hK
              have e1 := hR.f1 (hw 1 (by simp))
              have e2 := hR.f2 (hw 2 (by simp))
              simp only [e1, e2]
              clear e1 e2
              simp only [List.getElem_toArray, List.getElem_cons_succ, List.getElem_cons_zero]
              rw [if_pos (show Region.wanted _ _ = true by rfl)]
              refine wp_slice_h 22 _ _ (by rfl) Tryd.underlying22 i0 HI.out.1 HI.out.2.2.1 oa zs.length oc j (by rfl) (by rfl) (by omega) ?_
              refine hK.out _ _ ?_
              exact ⟨(fun jz => if jz = 45 then .slice oa zs.length oc else if jz = 46 then .int .i64 (j : Int) else if jz = 47 then sliced oa 0 j oc 1 else v jz), rfl, ⟨hR.st, (fun h => hR.g3 (upd_false h)), (fun _ => rfl), (fun _ => rfl), (fun _ => rfl), hR.f5.k, hR.f8.k, hR.f9.k, hR.f10.k, hR.x0.keepM rfl (fun h hx => h (upd_false hx)), hR.x6.keepM rfl (fun h hx => h (upd_false hx)), (fun h0 h6 h4 => hR.ap (upd_back h0 rfl) (upd_back h6 rfl) (upd_false h4)), hR.x4.keepM rfl (fun h hx => h (upd_false hx)), hR.x7.keepM rfl (fun h hx => h (upd_false hx)), hR.x11.k, hR.r12.k, (fun _ j hj => upd_on (hw j hj)), hR.w4.o, hR.w6.o, hR.w7.o, hR.w10.o, hR.w11.o, hR.w12.o⟩⟩
            refine EachOf.cons [0, 3] rfl (by kernel_rfl) ?_ ?_
            · rintro L A W ⟨v, rfl, hR⟩ hi hw K hK
              have e3 := hR.f3 (hw 3 (by simp))
              simp only [e3]
              clear e3
              have h7f : L 7 = false := hR.w7.not hi rfl
              have h11f : L 11 = false := hR.w11.not h7f rfl
              have ho := (hR.x0 (hw 0 (by simp)) hi)
              simp only [List.getElem_toArray, List.getElem_cons_succ, List.getElem_cons_zero]
              rw [if_pos (show Region.wanted _ _ = true by rfl)]
              refine wp_app_any (.tmp 44) (.tmp 47) 22 (by rfl) W1.heap.size 3 i0 (.int .i64 0) 8 Tryd.underlying22 HI.out.1 HI.out.2.1 HI.out.2.2.1 HI.out.2.2.2 rfl (v 44) 0 [] (by rfl) ho j (zrow (zs.take j)) ((HZ.out.on hR.st).srcH hj HCP) (by unfold maxLen; omega) (by omega) hR.st.size ?_
              intro v2 w2 hown hgrow
              have hbel := below_grown hR.st ho hgrow
              have x6n : L 6 = true → ∃ b c, v 50 = .slice (some ⟨b, 0, none⟩) 1 c ∧ w2.cell? ⟨b, 0, none⟩ = some (.int .i64 x) := fun h6 => by
                obtain ⟨b, c6, e6, hB⟩ := hR.x6 h6 h7f
                refine ⟨b, c6, e6, hgrow.cell hB ?_⟩
                rcases hR.ap (hw 0 (by simp)) h6 hi with q | q
                · rw [q]; simp
                · intro e; exact q (by rw [← e, e6]; rfl)
              refine hK.out _ _ ?_
              exact ⟨(fun jz => if jz = 47 then sliced oa 0 j oc 1 else if jz = 48 then v2 else v jz), rfl, ⟨hbel, (fun h => hR.g3 (upd_false h)), hR.f1.k, hR.f2.k, (fun _ => rfl), hR.f5.k, hR.f8.k, hR.f9.k, hR.f10.k, (fun _ h => by simp [upd_self] at h), (fun h h7 => x6n (upd_back h rfl)), (fun _ _ h => by simp [upd_self] at h), (fun _ _ => by simpa using hown), (fun h => absurd (upd_back h rfl) (by simp [h7f])), (fun h => absurd (upd_back h rfl) (by simp [h11f])), hR.r12.k, hR.w3.o, (fun _ j hj => upd_on (hw j hj)), hR.w6.o, hR.w7.o, hR.w10.o, hR.w11.o, hR.w12.o⟩⟩
            refine EachOf.cons [] rfl (by kernel_rfl) ?_ ?_
            · rintro L A W ⟨v, rfl, hR⟩ hi hw K hK
              go_simp
              refine hK.out _ _ ?_
              exact ⟨(fun jz => if jz = 49 then .int .i64 x else v jz), rfl, ⟨hR.st, (fun h => hR.g3 (upd_false h)), hR.f1.k, hR.f2.k, hR.f3.k, (fun _ => rfl), hR.f8.k, hR.f9.k, hR.f10.k, hR.x0.keepM rfl (fun h hx => h (upd_false hx)), hR.x6.keepM rfl (fun h hx => h (upd_false hx)), (fun h0 h6 h4 => hR.ap (upd_back h0 rfl) (upd_back h6 rfl) (upd_false h4)), hR.x4.keepM rfl (fun h hx => h (upd_false hx)), hR.x7.keepM rfl (fun h hx => h (upd_false hx)), hR.x11.k, hR.r12.k, hR.w3.o, hR.w4.o, hR.w6.o, hR.w7.o, hR.w10.o, hR.w11.o, hR.w12.o⟩⟩
            refine EachOf.cons [5] rfl (by kernel_rfl) ?_ ?_
            · rintro L A W ⟨v, rfl, hR⟩ hi hw K hK
              have e5 := hR.f5 (hw 5 (by simp))
              simp only [e5]
              clear e5
              go_simp
              refine hK.out _ _ ?_
              have hal : Below W.heap.size W (W.alloc (Obj.cells #[.int .i64 x] 3)) := (Below.refl _ _).alloc (Nat.le_refl _) _
              have hbel : Below W1.heap.size W1 (W.alloc (Obj.cells #[.int .i64 x] 3)) := below_on hR.st hal
              have h7f : L 7 = false := hR.w7.not hi rfl
              have h11f : L 11 = false := hR.w11.not h7f rfl
              exact ⟨(fun jz => if jz = 49 then .int .i64 x else if jz = 50 then .slice (some ⟨W.heap.size, 0, none⟩) 1 1 else v jz), rfl, ⟨hbel, (fun h => hR.g3 (upd_false h)), hR.f1.k, hR.f2.k, hR.f3.k, (fun _ => rfl), hR.f8.k, hR.f9.k, hR.f10.k, hR.x0.keepM rfl (fun h hx => (h (upd_false hx)).alloc _), (fun _ _ => ⟨W.heap.size, 1, rfl, cell_new0 W _ _⟩), (fun h0 _ h4 => by have q := hR.x0 (upd_back h0 rfl) (upd_false h4); cases hq : (v 44).ownBlock with | none => exact .inl hq | some b => refine .inr ?_; intro e; have := (q.lt b hq).2; have e2 : (v 44).ownBlock = some W.heap.size := e; rw [hq] at e2; injection e2 with e2; omega), hR.x4.keepM rfl (fun h hx => (h (upd_false hx)).alloc _), (fun h => absurd (upd_back h rfl) (by simp [h7f])), (fun h => absurd (upd_back h rfl) (by simp [h11f])), hR.r12.k, hR.w3.o, hR.w4.o, (fun _ j hj => upd_on (hw j hj)), hR.w7.o, hR.w10.o, hR.w11.o, hR.w12.o⟩⟩
            refine EachOf.cons [4, 6] rfl (by kernel_rfl) ?_ ?_
            · rintro L A W ⟨v, rfl, hR⟩ hi hw K hK
              have h11f : L 11 = false := hR.w11.not hi rfl
              have ho := (hR.x4 (hw 4 (by simp)) hi)
              obtain ⟨b, c6, e6, hB⟩ := hR.x6 (hw 6 (by simp)) hi
              simp only [e6]
              simp only [List.getElem_toArray, List.getElem_cons_succ, List.getElem_cons_zero]
              rw [if_pos (show Region.wanted _ _ = true by rfl)]
              refine wp_app_any (.tmp 48) (.tmp 50) 22 (by rfl) W1.heap.size 3 i0 (.int .i64 0) 8 Tryd.underlying22 HI.out.1 HI.out.2.1 HI.out.2.2.1 HI.out.2.2.2 rfl (v 48) j (zrow (zs.take j)) (by rfl) ho 1 (zrow [x]) (SrcV.one hB) (by unfold maxLen; omega) (by omega) hR.st.size ?_
              intro v2 w2 hown hgrow
              have hbel := below_grown hR.st ho hgrow
              refine hK.out _ _ ?_
              exact ⟨(fun jz => if jz = 50 then .slice (some ⟨b, 0, none⟩) 1 c6 else if jz = 51 then v2 else v jz), rfl, ⟨hbel, (fun h => hR.g3 (upd_false h)), hR.f1.k, hR.f2.k, hR.f3.k, hR.f5.k, hR.f8.k, hR.f9.k, hR.f10.k, (fun _ h => absurd (hw 4 (by simp)) (by simp [upd_false h])), (fun _ h => by simp [upd_self] at h), (fun _ _ h => absurd (hw 4 (by simp)) (by simp [upd_false h])), (fun _ h => by simp [upd_self] at h), (fun _ _ => hown), (fun h => absurd (upd_back h rfl) (by simp [h11f])), hR.r12.k, hR.w3.o, hR.w4.o, hR.w6.o, (fun _ j hj => upd_on (hw j hj)), hR.w10.o, hR.w11.o, hR.w12.o⟩⟩
            refine EachOf.cons [] rfl (by kernel_rfl) ?_ ?_
            · rintro L A W ⟨v, rfl, hR⟩ hi hw K hK
              have h12f : L 12 = false := hR.w12.not hi rfl
              have e3 := hR.g3 h12f
              simp only [e3]
              clear e3
              go_simp
              refine hK.out _ _ ?_
              exact ⟨(fun jz => if jz = 3 then .slice oa zs.length oc else if jz = 52 then .slice oa zs.length oc else v jz), rfl, ⟨hR.st, (fun _ => rfl), hR.f1.k, hR.f2.k, hR.f3.k, hR.f5.k, (fun _ => rfl), hR.f9.k, hR.f10.k, hR.x0.keepM rfl (fun h hx => h (upd_false hx)), hR.x6.keepM rfl (fun h hx => h (upd_false hx)), (fun h0 h6 h4 => hR.ap (upd_back h0 rfl) (upd_back h6 rfl) (upd_false h4)), hR.x4.keepM rfl (fun h hx => h (upd_false hx)), hR.x7.keepM rfl (fun h hx => h (upd_false hx)), hR.x11.k, (fun h => absurd (upd_back h rfl) (by simp [h12f])), hR.w3.o, hR.w4.o, hR.w6.o, hR.w7.o, hR.w10.o, hR.w11.o, hR.w12.o⟩⟩
            refine EachOf.cons [] rfl (by kernel_rfl) ?_ ?_
            · rintro L A W ⟨v, rfl, hR⟩ hi hw K hK
              go_simp
              refine hK.out _ _ ?_
              exact ⟨(fun jz => if jz = 53 then .int .i64 (j : Int) else v jz), rfl, ⟨hR.st, (fun h => hR.g3 (upd_false h)), hR.f1.k, hR.f2.k, hR.f3.k, hR.f5.k, hR.f8.k, (fun _ => rfl), hR.f10.k, hR.x0.keepM rfl (fun h hx => h (upd_false hx)), hR.x6.keepM rfl (fun h hx => h (upd_false hx)), (fun h0 h6 h4 => hR.ap (upd_back h0 rfl) (upd_back h6 rfl) (upd_false h4)), hR.x4.keepM rfl (fun h hx => h (upd_false hx)), hR.x7.keepM rfl (fun h hx => h (upd_false hx)), hR.x11.k, hR.r12.k, hR.w3.o, hR.w4.o, hR.w6.o, hR.w7.o, hR.w10.o, hR.w11.o, hR.w12.o⟩⟩
            refine EachOf.cons [8, 9] rfl (by kernel_rfl) ?_ ?_
            · rintro L A W ⟨v, rfl, hR⟩ hi hw K hK
              have e8 := hR.f8 (hw 8 (by simp))
              have e9 := hR.f9 (hw 9 (by simp))
              simp only [e8, e9]
              clear e8 e9
              simp only [List.getElem_toArray, List.getElem_cons_succ, List.getElem_cons_zero]
              rw [if_pos (show Region.wanted _ _ = true by rfl)]
              refine wp_slice_l 22 _ _ (by rfl) Tryd.underlying22 i0 HI.out.1 HI.out.2.2.1 oa zs.length oc j (by rfl) (by rfl) (by omega) ?_
              refine hK.out _ _ ?_
              exact ⟨(fun jz => if jz = 52 then .slice oa zs.length oc else if jz = 53 then .int .i64 (j : Int) else if jz = 54 then sliced oa j zs.length oc 1 else v jz), rfl, ⟨hR.st, (fun h => hR.g3 (upd_false h)), hR.f1.k, hR.f2.k, hR.f3.k, hR.f5.k, (fun _ => rfl), (fun _ => rfl), (fun _ => rfl), hR.x0.keepM rfl (fun h hx => h (upd_false hx)), hR.x6.keepM rfl (fun h hx => h (upd_false hx)), (fun h0 h6 h4 => hR.ap (upd_back h0 rfl) (upd_back h6 rfl) (upd_false h4)), hR.x4.keepM rfl (fun h hx => h (upd_false hx)), hR.x7.keepM rfl (fun h hx => h (upd_false hx)), hR.x11.k, hR.r12.k, hR.w3.o, hR.w4.o, hR.w6.o, hR.w7.o, (fun _ j hj => upd_on (hw j hj)), hR.w11.o, hR.w12.o⟩⟩
            refine EachOf.cons [7, 10] rfl (by kernel_rfl) ?_ ?_
            · rintro L A W ⟨v, rfl, hR⟩ hi hw K hK
              have e10 := hR.f10 (hw 10 (by simp))
              simp only [e10]
              clear e10
              have h12f : L 12 = false := hR.w12.not hi rfl
              have h7t := hw 7 (by simp)
              have h4t : L 4 = true := hR.w7 h7t 4 (by simp)
              have ho := (hR.x7 (hw 7 (by simp)) hi)
              simp only [List.getElem_toArray, List.getElem_cons_succ, List.getElem_cons_zero]
              rw [if_pos (show Region.wanted _ _ = true by rfl)]
              refine wp_app_any (.tmp 51) (.tmp 54) 22 (by rfl) W1.heap.size 3 i0 (.int .i64 0) 8 Tryd.underlying22 HI.out.1 HI.out.2.1 HI.out.2.2.1 HI.out.2.2.2 rfl (v 51) (j + 1) (zrow (zs.take j) ++ zrow [x]) (by rfl) ho (zs.length - j) (zrow (zs.drop j)) ((HZ.out.on hR.st).srcL hj HCP) (by unfold maxLen; omega) (by omega) hR.st.size ?_
              intro v2 w2 hown hgrow
              have hbel := below_grown hR.st ho hgrow
              refine hK.out _ _ ?_
              exact ⟨(fun jz => if jz = 54 then sliced oa j zs.length oc 1 else if jz = 55 then v2 else v jz), rfl, ⟨hbel, (fun h => hR.g3 (upd_false h)), hR.f1.k, hR.f2.k, hR.f3.k, hR.f5.k, hR.f8.k, hR.f9.k, (fun _ => rfl), (fun _ h => absurd h4t (by simp [upd_false h])), (fun _ h => absurd h7t (by simp [upd_false h])), (fun _ _ h => absurd h4t (by simp [upd_false h])), (fun _ h => absurd h7t (by simp [upd_false h])), (fun _ h => by simp [upd_self] at h), (fun _ => hown), (fun h => absurd (upd_back h rfl) (by simp [h12f])), hR.w3.o, hR.w4.o, hR.w6.o, hR.w7.o, hR.w10.o, (fun _ j hj => upd_on (hw j hj)), hR.w12.o⟩⟩
            refine EachOf.cons [0, 1, 2, 3, 4, 5, 6, 7, 8, 9, 10, 11] rfl (by kernel_rfl) ?_ ?_
            · rintro L A W ⟨v, rfl, hR⟩ hi hw K hK
              go_simp
              refine hK.out _ _ ?_
              exact ⟨(fun jz => if jz = 3 then v 55 else v jz), rfl, ⟨hR.st, (fun h => by simp [upd_self] at h), hR.f1.k, hR.f2.k, hR.f3.k, hR.f5.k, hR.f8.k, hR.f9.k, hR.f10.k, hR.x0.keepM rfl (fun h hx => h (upd_false hx)), hR.x6.keepM rfl (fun h hx => h (upd_false hx)), (fun h0 h6 h4 => hR.ap (upd_back h0 rfl) (upd_back h6 rfl) (upd_false h4)), hR.x4.keepM rfl (fun h hx => h (upd_false hx)), hR.x7.keepM rfl (fun h hx => h (upd_false hx)), hR.x11.k, (fun _ => rfl), hR.w3.o, hR.w4.o, hR.w6.o, hR.w7.o, hR.w10.o, hR.w11.o, (fun _ j hj => upd_on (hw j hj))⟩⟩
            exact EachOf.nil
          · rintro L A W ⟨v, rfl, hR⟩ hall
            have h3 := hR.r12 (hall 12 (by simp))
            have ho := hR.x11 (hall 11 (by simp))
            have hst := hR.st
            rw [← zrow_app, ← zrow_app, ← h3] at ho
            have elen : (zs.take j ++ [x] ++ zs.drop j).length = j + 1 + (zs.length - j) := by
              rw [List.length_append, List.length_append, List.length_take, List.length_drop, Nat.min_eq_left hj]; rfl
            rw [← elen] at ho
            have TT : Hid (Below w.heap.size w W ∧ W.ownsRow w.heap.size 3 1 (v 3) (zs.take j ++ [x] ++ zs.drop j).length (zrow (zs.take j ++ [x] ++ zs.drop j)) ∧ SmI f n (k + 1) (zs.take j ++ [x] ++ zs.drop j)) := ⟨below_on HSB.out hst, own_mono ho HSB.out.size, HSM.out.put HX.out HP1.out HP2.out⟩
            clear hR h3 ho hst elen hall
            go_wp2_with fail
            go_roundg (M - (k + 1))
            case measure => omega
            case rel => exact ⟨k + 1, _, rfl, rfl, by omega, TT.out⟩
    · have e : k = M := by omega
      subst e
      have he := HDONE.out zs S.out.2.2
      have T := Lib.hid (And.intro S.out.1 S.out.2.1)
      rw [he] at T ⊢
      clear S he HDONE
      go_wp2_with fail
      go_ret
      exact ⟨T.out.1, oa, oc, rfl, T.out.2⟩
end Go.Proofs.YtlgpckjhnohhhaaDoor
