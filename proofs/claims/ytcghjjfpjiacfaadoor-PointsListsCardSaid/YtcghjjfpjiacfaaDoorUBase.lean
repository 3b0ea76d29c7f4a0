/- Layer 7: memory: what lies where, a region that draws its order, own rows, lists of integers that are read. -/
import Derived.Test.YtcghjjfpjiacfaaDoorUM
import Derived.Test.YtcghjjfpjiacfaaDoorShelf
import Derived.WalkKit
import Derived.WalkSpells
import Derived.WalkLawsBesides
import Derived.Deep.QuietTactic
import Derived.BigQuiet
import Derived.StillTactics
import Derived.RowKit3
import Derived.Handy
import Derived.ProofKit
import Derived.Deep.Cut
import Derived.Deep.DeepCutAuto
import Derived.Laws.Concat
import Derived.Lib.BitFns
import Derived.Deep.RegionHeld3
import Derived.Laws.AppendOwn
import Derived.Deep.AppendLies
import Derived.Laws.CopyOwn
import Derived.OpenShut
import Derived.Carry
import Derived.Lib.SmallJoins
import Derived.Lib.AtoiErrMem
import Derived.Lib.Hide
import Derived.Deep.Draws
import Derived.Laws.BitsAllLaws
namespace Go.Proofs.YtcghjjfpjiacfaaDoor
open Go.ChangeShapes Go.WideShapes Go.ChangeAt Go.RowKit Go.Joins Go.Deep Go.Shelf
set_option linter.unusedVariables false

section
variable {P : Program} {ops : Array Oper} {Q : Exit → Act → World → Prop}

/-- One operation more has been carried out. -/
def upd (L : Nat → Bool) (i : Nat) : Nat → Bool := fun j => if j = i then true else L j
/-- What holds once operation j has been carried out. -/
def Had (L : Nat → Bool) (j : Nat) (p : Prop) : Prop := L j = true → p
theorem Had.keep {L : Nat → Bool} {i j : Nat} {p : Prop} (h : Had L j p) (hne : (j == i) = false) : Had (upd L i) j p := fun hl => h (by
  unfold upd at hl
  rw [if_neg (by simpa using hne)] at hl
  exact hl)
theorem Had.keepM {L : Nat → Bool} {i j : Nat} {p q : Prop} (h : Had L j p) (hne : (j == i) = false) (hpq : p → q) : Had (upd L i) j q := fun hl => hpq (h.keep hne hl)
theorem Had.new {L : Nat → Bool} {i : Nat} {p : Prop} (h : p) : Had (upd L i) i p := fun _ => h
theorem Had.none {j : Nat} {p : Prop} : Had (fun _ => false) j p := fun h => by cases h
/-- Two operations have been carried out. -/
def Had2 (L : Nat → Bool) (i j : Nat) (p : Prop) : Prop := L i = true → L j = true → p

theorem Had2.keep {L : Nat → Bool} {i j k : Nat} {p : Prop} (h : Had2 L j k p) (h1 : (j == i) = false) (h2 : (k == i) = false) : Had2 (upd L i) j k p := fun a b => h (by
  unfold upd at a
  rw [if_neg (by simpa using h1)] at a
  exact a) (by
  unfold upd at b
  rw [if_neg (by simpa using h2)] at b
  exact b)
theorem upd_on {L : Nat → Bool} {i j : Nat} (h : L j = true) : upd L i j = true := by unfold upd; split <;> simp [h]
theorem Had.o {L : Nat → Bool} {i j : Nat} {l : List Nat} (h : Had L j (∀ k ∈ l, L k = true)) (hne : (j == i) = false := by rfl) : Had (upd L i) j (∀ k ∈ l, upd L i k = true) := h.keepM hne (fun h j hj => upd_on (h j hj))
theorem Had.k {L : Nat → Bool} {i j : Nat} {p : Prop} (h : Had L j p) (hne : (j == i) = false := by rfl) : Had (upd L i) j p := h.keep hne
theorem upd_self {L : Nat → Bool} {i : Nat} : upd L i i = true := by unfold upd; simp
theorem upd_false {L : Nat → Bool} {i j : Nat} (h : upd L i j = false) : L j = false := by
  unfold upd at h
  split at h
  · cases h
  · exact h
theorem upd_back {L : Nat → Bool} {i j : Nat} (h : upd L i j = true) (hne : (j == i) = false) : L j = true := by
  unfold upd at h
  rw [if_neg (by simpa using hne)] at h
  exact h
/-- What waits for j has not been carried out, as j has not. -/
theorem Had.not {L : Nat → Bool} {j k : Nat} {js : List Nat} (h : Had L k (∀ j ∈ js, L j = true)) (hj : L j = false) (hm : js.contains j = true) : L k = false := by
  cases hk : L k
  · rfl
  · have := h hk j (by simpa using hm)
    rw [hj] at this; cases this

/-- Operation i waits for operation k. -/
def waits (ops : Array Oper) (i k : Nat) : Bool := ((ops[i]?).map fun o => o.after.any fun e => e.on == k && Region.binds .any e).getD false
/-- Each operation waits for earlier ones alone. -/
def onward (ops : Array Oper) : Bool := (List.range ops.size).all fun i => ((ops[i]?).map fun o => o.after.all fun e => !Region.binds .any e || decide (e.on < i)).getD true

theorem ready_all {listed : Array Bool} (hon : onward ops = true) (hs : listed.size = ops.size) (hr : Region.ready .any ops listed = []) : ∀ i, i < ops.size → listed.getD i false = true := by
  intro i
  induction i using Nat.strongRecOn with
  | ind i ih =>
    intro hi
    by_cases h : listed.getD i false = true
    · exact h
    · exfalso
      have h2 : listed.getD i true = false := by
        have hl : i < listed.size := by omega
        simp [hl] at h ⊢
        exact h
      have hm : i ∈ Region.ready .any ops listed := by
        refine mem_ready.2 ⟨h2, ops[i], by simp [hi], fun e he hb => ?_⟩
        have h3 := (List.all_eq_true.1 hon) i (by simpa using hi)
        simp only [Array.getElem?_eq_getElem hi, Option.map_some, Option.getD_some, Array.all_eq_true_iff_forall_mem] at h3
        have h4 := h3 e he
        rw [hb] at h4
        have h5 : e.on < i := by simpa using h4
        exact ih _ h5 (by omega)
      rw [hr] at hm
      cases hm

theorem wpAny_each (J : (Nat → Bool) → Act → World → Prop) (hon : onward ops = true)
    (hend : ∀ L a w, J L a w → (∀ i, i < ops.size → L i = true) → Q .normal a w)
    (hstep : ∀ i, i < ops.size → ∀ L a w, J L a w → L i = false → (∀ k, waits ops i k = true → L k = true) → wpOp P ops Q i (fun a' w' => J (upd L i) a' w') a w) :
    ∀ (fuel : Nat) (listed : Array Bool) (a : Act) (w : World), listed.size = ops.size → listed.toList.count false ≤ fuel → J (fun i => listed.getD i false) a w → wpAny P .any ops Q fuel listed a w := by
  intro fuel
  induction fuel with
  | zero =>
    intro listed a w hs hc hJ
    have hz : ∀ i, i < ops.size → listed.getD i false = true := fun i hi => by
      have hl : i < listed.size := by omega
      have h0 : listed.toList.count false = 0 := by omega
      have h1 := (List.count_eq_zero.1 h0)
      have h2 : listed[i] ∈ listed.toList := by simp
      simp [hl]
      cases hb : listed[i]
      · rw [hb] at h2; exact absurd h2 h1
      · rfl
    refine ⟨?_, hend _ _ _ hJ hz⟩
    cases hr : Region.ready .any ops listed with
    | nil => rfl
    | cons j r =>
      have hm : j ∈ Region.ready .any ops listed := by rw [hr]; simp
      obtain ⟨h0, o, ho, _⟩ := mem_ready.1 hm
      have hj : j < ops.size := (Array.getElem?_eq_some_iff.1 ho).1
      have h1 := hz j hj
      have hl : j < listed.size := by omega
      simp [hl] at h0 h1
      rw [h0] at h1; cases h1
  | succ fuel ih =>
    intro listed a w hs hc hJ
    refine ⟨fun hr => hend _ _ _ hJ (ready_all hon hs hr), fun i hi => ?_⟩
    obtain ⟨h0, o, ho, hall⟩ := mem_ready.1 hi
    have hj : i < ops.size := (Array.getElem?_eq_some_iff.1 ho).1
    have hl : i < listed.size := by omega
    have hw : ∀ k, waits ops i k = true → listed.getD k false = true := fun k hk => by
      unfold waits at hk
      rw [ho] at hk
      simp only [Option.map_some, Option.getD_some, Array.any_eq_true'] at hk
      obtain ⟨e, he, hb⟩ := hk
      simp only [Bool.and_eq_true, beq_iff_eq] at hb
      rw [← hb.1]
      exact hall e he hb.2
    refine wpOp_mono (fun a' w' h => ih (listed.setIfInBounds i true) a' w' (by simpa using hs) ?_ ?_) (hstep i hj _ a w hJ (by simpa [hl] using h0) hw)
    · have h1 : listed[i] = false := by simpa [hl] using h0
      have h2 : (listed.setIfInBounds i true).toList.count false + 1 = listed.toList.count false := by
        rw [Array.toList_setIfInBounds, List.count_set (by simpa using hl)]
        have h3 : 0 < listed.toList.count false := List.count_pos_iff.2 (by rw [← h1]; simp)
        rw [Array.getElem_toList, h1, if_pos (by rfl), if_neg (by simp)]
        omega
      omega
    · have e : (fun j => (listed.setIfInBounds i true).getD j false) = upd (fun j => listed.getD j false) i := by
        funext j
        unfold upd
        by_cases hji : j = i
        · subst hji; simp [hl]
        · rw [if_neg hji, getD_set_ne false (Ne.symm hji)]
      rw [e]
      exact h

/-- The operations of a list, each walked once. -/
def EachOf (P : Program) (ops : Array Oper) (Q : Exit → Act → World → Prop) (J : (Nat → Bool) → Act → World → Prop) (rs : List Nat) : Prop :=
  ∀ i ∈ rs, ∀ L a w, J L a w → L i = false → (∀ k, waits ops i k = true → L k = true) → wpOp P ops Q i (fun a' w' => J (upd L i) a' w') a w
theorem EachOf.nil {J : (Nat → Bool) → Act → World → Prop} : EachOf P ops Q J [] := fun _ h => by cases h
theorem EachOf.cons {J : (Nat → Bool) → Act → World → Prop} {i : Nat} {o : Oper} {rs : List Nat} (ds : List Nat) (ho : ops[i]? = some o) (hds : ds.all (waits ops i) = true)
    (h : ∀ L a w, J L a w → L i = false → (∀ k ∈ ds, L k = true) → ∀ K' : Act → World → Prop, Shut (∀ a w, J (upd L i) a w → K' a w) → if Region.wanted o (yielded ops a.tmps) = true then Oper.wp P o a w K' Q else K' (a.put o.dst undef) w)
    (hs : EachOf P ops Q J rs) : EachOf P ops Q J (i :: rs) := fun j hj => by
  rcases List.mem_cons.1 hj with rfl | hj
  · exact fun L a w hJ hi hw => wpOp_step ho (fun K' hK => h L a w hJ hi (fun k hk => hw k (List.all_eq_true.1 hds k hk)) K' hK)
  · exact hs j hj

theorem wp_region_each {id : Nat} {a : Act} {w : World} (J : (Nat → Bool) → Act → World → Prop) (hm : P.follows .mixedOrders = true) (hon : onward ops = true)
    (h0 : J (fun _ => false) a w.drew) {rs : List Nat} (hrs : List.range ops.size = rs) (hstep : EachOf P ops Q J rs)
    (hend : ∀ L a w, J L a w → (∀ i ∈ rs, L i = true) → Q .normal a w) : (Code.region id ops true).wp P Q a w := by
  refine wp_region_any hm (wpAny_each J hon (fun L a w hJ hL => hend L a w hJ (fun i hi => hL i (by rw [← hrs] at hi; simpa using hi))) (fun i hi => hstep i (by rw [← hrs]; simpa using hi)) ops.size _ a _ (by simp) ?_ ?_)
  · simp
  · have e : (fun i => (Array.replicate ops.size false).getD i false) = fun _ => false := by
      funext i
      by_cases hi : i < ops.size
      · simp [hi]
      · simp [hi]
    rw [e]
    exact h0
end

/-- Of the old blocks only those of S have changed. -/
structure Only (S : Nat → Prop) (W W' : World) : Prop where
  os : W'.os = W.os
  tape : W'.tape = W.tape
  output : W'.output = W.output
  size : W.heap.size ≤ W'.heap.size
  block : ∀ c, c < W.heap.size → ¬ S c → W'.heap[c]? = W.heap[c]?
theorem Only.refl (S : Nat → Prop) (W : World) : Only S W W := ⟨rfl, rfl, rfl, Nat.le_refl _, fun _ _ _ => rfl⟩
theorem Only.trans {S : Nat → Prop} {a b c : World} (h : Only S a b) (k : Only S b c) : Only S a c :=
  ⟨k.os.trans h.os, k.tape.trans h.tape, k.output.trans h.output, Nat.le_trans h.size k.size, fun x hx hn => (k.block x (Nat.lt_of_lt_of_le hx h.size) hn).trans (h.block x hx hn)⟩
theorem Only.of_below {S : Nat → Prop} {W W' : World} (h : Below W.heap.size W W') : Only S W W' := ⟨h.os, h.tape, h.output, h.size, fun c hc _ => h.block c hc⟩
theorem Only.mono {S T : Nat → Prop} {W W' : World} (h : Only S W W') (hs : ∀ c, S c → T c) : Only T W W' := ⟨h.os, h.tape, h.output, h.size, fun c hc hn => h.block c hc fun k => hn (hs c k)⟩
theorem Only.below {S : Nat → Prop} {W W' : World} (h : Only S W W') {B : Nat} (hB : B ≤ W.heap.size) (hs : ∀ c, S c → B ≤ c) : Below B W W' := ⟨h.os, h.tape, h.output, h.size, fun c hc => h.block c (Nat.lt_of_lt_of_le hc hB) fun k => by have := hs c k; omega⟩
theorem Only.setCell {S : Nat → Prop} {W W' : World} (h : Only S W W') (p : Addr) (hp : S p.block) (v : Value) : Only S W (W'.setCell p v) := by
  refine h.trans ⟨rfl, rfl, rfl, by simp, fun c hc hn => ?_⟩
  exact Below.heap_setCell W' p v c (fun e => hn (by rw [e]; exact hp))
theorem Only.on {S : Nat → Prop} {W W' W2 : World} (h : Only S W W') (hb : Below W'.heap.size W' W2) : Only S W W2 := h.trans (Only.of_below hb)
theorem Only.cell {S : Nat → Prop} {W W' : World} (h : Only S W W') {p : Addr} (hp : p.block < W.heap.size) (hn : ¬ S p.block) : W'.cell? p = W.cell? p := World.cell?_of_block (w := W) (h.block p.block hp hn)
theorem Only.frozen {S : Nat → Prop} {W W' : World} (h : Only S W W') {p : Addr} (hp : p.block < W.heap.size) (hn : ¬ S p.block) : W'.frozen? p = W.frozen? p := World.frozen?_of_block (w := W) (h.block p.block hp hn)

theorem adr_ne {b i j : Nat} (h : i ≠ j) : (⟨b, i, none⟩ : Addr) ≠ ⟨b, j, none⟩ := by
  intro e
  injection e with e1 e2 e3
  exact h e2

theorem below_drew {a w : World} (h : Below a.heap.size a w) (k : Nat) : Below a.heap.size a (w.drewN k) := h.trans ⟨rfl, rfl, rfl, Nat.le_refl _, fun _ _ => rfl⟩
theorem below_on {w W w1 : World} (h : Below w.heap.size w W) (hb : Below W.heap.size W w1) : Below w.heap.size w w1 := h.trans (hb.mono h.size)
theorem own_only {S : Nat → Prop} {W W2 : World} {base : Nat} {t : TypeId} {size : Nat} {v : Value} {n : Nat} {xs : List Value} (h : W.ownsRow base t size v n xs) (hb : Only S W W2) (hn : ∀ q, v.ownBlock = some q → ¬ S q) : W2.ownsRow base t size v n xs := by
  obtain ⟨h1, h2⟩ := h
  refine ⟨h1, ?_⟩
  rcases h2 with h2 | ⟨g, cap, cur, hv, hg, hh, r⟩
  · exact .inl h2
  · exact .inr ⟨g, cap, cur, hv, hg, by rw [hb.block g (Array.getElem?_eq_some_iff.1 hh).1 (hn g (by rw [hv]; rfl))]; exact hh, r⟩
theorem below_on2 {B : Nat} {a b c : World} (h : Below B a b) (hB : B ≤ a.heap.size) (k : Below b.heap.size b c) : Below B a c := h.trans (k.mono (Nat.le_trans hB h.size))
theorem own_form {W : World} {base : Nat} {t : TypeId} {size k : Nat} {pv : Value} {xs : List Value} (h : W.ownsRow base t size pv k xs) : ∃ pa pc, pv = .slice pa k pc := by
  rcases h.2 with ⟨h1, h2⟩ | ⟨g, cap, cur, hv, _⟩
  · exact ⟨none, 0, by rw [h1, h2]⟩
  · exact ⟨_, _, hv⟩
theorem own_frozen {W : World} {base : Nat} {t : TypeId} {size k g : Nat} {pv : Value} {xs : List Value} (h : W.ownsRow base t size pv k xs) (hg : pv.ownBlock = some g) (j : Nat) : W.frozen? ⟨g, j, none⟩ = false := by
  rcases h.2 with ⟨rfl, _⟩ | ⟨g', cap, cur, rfl, _, hgg, _⟩
  · simp [Value.ownBlock] at hg
  · simp [Value.ownBlock] at hg
    subst hg
    simp [World.frozen?, hgg]
theorem grown_only {Wc W W2 : World} {row : Option Nat} (hb : Below Wc.heap.size Wc W) (hg : W.grownBy W2 row) : Only (fun q => row = some q) Wc W2 :=
  (Only.of_below hb).trans ⟨hg.os, hg.tape, hg.output, hg.size, fun c hc hn => hg.block c hc (fun e => hn e.symm)⟩
structure AppW (Wc W : World) (B0 t : Nat) (pv : Value) (k : Nat) (ys : List Value) (z : Value) : Prop where
  only : Only (fun q => pv.ownBlock = some q) Wc W
  own : W.ownsRow B0 t 1 z (k + 1) ys
  form : ∃ g cap, z = .slice (some ⟨g, 0, none⟩) (k + 1) cap ∧ (pv.ownBlock = some g ∨ Wc.heap.size ≤ g) ∧ g < W.heap.size
theorem AppW.make {Wc W W2 : World} {B0 t : Nat} {pv : Value} {k : Nat} {ys : List Value} {g cap : Nat} (hb : Below Wc.heap.size Wc W) (hg : W.grownBy W2 pv.ownBlock) (ho : W2.ownsRow B0 t 1 (.slice (some ⟨g, 0, none⟩) (k + 1) cap) (k + 1) ys) (ha : pv.ownBlock = some g ∨ g = W.heap.size) (hl : g < W2.heap.size) :
    AppW Wc W2 B0 t pv k ys (.slice (some ⟨g, 0, none⟩) (k + 1) cap) :=
  ⟨grown_only hb hg, ho, g, cap, rfl, ha.imp id (fun e => by rw [e]; exact hb.size), hl⟩
theorem only_set (W : World) (p : Addr) (v : Value) : Only (fun q => q = p.block) W (W.setCell p v) := (Only.refl (fun q => q = p.block) W).setCell p rfl v
def IRow (W : World) (ra : Option Addr) (n : Nat) (f : Nat → Int) : Prop := 0 < n → ∃ g o, ra = some ⟨g, o, none⟩ ∧ g < W.heap.size ∧ ∀ j, j < n → W.cell? ⟨g, o + j, none⟩ = some (.int .i64 (f j))
theorem IRow.on {W W2 : World} {ra : Option Addr} {n : Nat} {f : Nat → Int} (h : IRow W ra n f) (hb : Below W.heap.size W W2) : IRow W2 ra n f := fun hn => by
  obtain ⟨g, o, h1, h2, h3⟩ := h hn
  exact ⟨g, o, h1, Nat.lt_of_lt_of_le h2 hb.size, fun j hj => (hb.cell (p := ⟨g, o + j, none⟩) h2).trans (h3 j hj)⟩
theorem below_grown {w W W2 : World} {t : TypeId} {size k : Nat} {v : Value} {xs : List Value} (hb : Below w.heap.size w W) (ho : W.ownsRow w.heap.size t size v k xs) (hg : W.grownBy W2 v.ownBlock) : Below w.heap.size w W2 :=
  hb.trans ((grown_only (Below.refl W.heap.size W) hg).below hb.size (fun q hq => (ho.lt q hq).1))
theorem ints_map (n : Nat) (f : Nat → Int) : ((List.range n).map fun j => Value.int .i64 (f j)).length = n := by simp
theorem ints_news {W : World} {g o n : Nat} {f : Nat → Int} (h : ∀ j, j < n → W.cell? ⟨g, o + j, none⟩ = some (.int .i64 (f j))) : ∀ j u, ((List.range n).map fun j => Value.int .i64 (f j))[j]? = some u → W.cell? ((⟨g, o, none⟩ : Addr).add j) = some u := fun j u hu => by
  have hj : j < n := by
    rcases Nat.lt_or_ge j n with q | q
    · exact q
    · rw [List.getElem?_eq_none (by simpa using q)] at hu; cases hu
  have e : (⟨g, o, none⟩ : Addr).add j = ⟨g, o + j, none⟩ := by unfold Addr.add; split <;> simp_all
  rw [e, h j hj]
  simpa [hj] using hu
theorem ints_one {n : Nat} {f : Nat → Int} : ∀ u ∈ ((List.range n).map fun j => Value.int .i64 (f j)), u.oneCell' = true := fun u hu => by
  obtain ⟨j, _, rfl⟩ := List.mem_map.1 hu
  rfl
theorem one_news {W : World} {B : Nat} {x : Value} (h : W.cell? ⟨B, 0, none⟩ = some x) : ∀ j u, [x][j]? = some u → W.cell? ((⟨B, 0, none⟩ : Addr).add j) = some u := fun j u hu => by
  cases j with
  | zero =>
    simp at hu
    subst hu
    exact h
  | succ j => simp at hu
structure NRow (lo n : Nat) (W : World) (g cp : Nat) (f : Nat → Int) : Prop where
  lo : lo ≤ g
  hb : g < W.heap.size
  cap : n ≤ cp
  cell : ∀ j, j < n → W.cell? ⟨g, j, none⟩ = some (.int .i64 (f j))
  fz : ∀ j, j < n → W.frozen? ⟨g, j, none⟩ = false
theorem NRow.on {lo n : Nat} {W W2 : World} {g cp : Nat} {f : Nat → Int} (h : NRow lo n W g cp f) (hb : Below W.heap.size W W2) : NRow lo n W2 g cp f :=
  ⟨h.lo, Nat.lt_of_lt_of_le h.hb hb.size, h.cap, fun j hj => (hb.cell (p := ⟨g, j, none⟩) h.hb).trans (h.cell j hj), fun j hj => (hb.frozen (p := ⟨g, j, none⟩) h.hb).trans (h.fz j hj)⟩
theorem NRow.only {S : Nat → Prop} {lo n : Nat} {W W2 : World} {g cp : Nat} {f : Nat → Int} (h : NRow lo n W g cp f) (hb : Only S W W2) (hn : ¬ S g) : NRow lo n W2 g cp f :=
  ⟨h.lo, Nat.lt_of_lt_of_le h.hb hb.size, h.cap, fun j hj => (hb.cell (p := ⟨g, j, none⟩) h.hb hn).trans (h.cell j hj), fun j hj => (hb.frozen (p := ⟨g, j, none⟩) h.hb hn).trans (h.fz j hj)⟩
theorem NRow.mono {lo lo2 n : Nat} {W : World} {g cp : Nat} {f : Nat → Int} (h : NRow lo n W g cp f) (hl : lo2 ≤ lo) : NRow lo2 n W g cp f := ⟨Nat.le_trans hl h.lo, h.hb, h.cap, h.cell, h.fz⟩
theorem own_nrow {W : World} {base n : Nat} {v : Value} {f : Nat → Int} (h : W.ownsRow base 3 1 v n ((List.range n).map fun j => Value.int .i64 (f j))) (hn : 0 < n) : ∃ g cp, v = .slice (some ⟨g, 0, none⟩) n cp ∧ NRow base n W g cp f := by
  have h2 := h
  rcases h.2 with ⟨_, h0⟩ | ⟨g, cap, cur, hv, hb, hg, hc, _⟩
  · omega
  · refine ⟨g, cap, hv, hb, (Array.getElem?_eq_some_iff.1 hg).1, hc, fun j hj => ?_, fun j hj => own_frozen h2 (by rw [hv]; rfl) j⟩
    have := h2.cells (g := g) (by rw [hv]; rfl) j (.int .i64 (f j)) (by simp [hj])
    rwa [show (⟨g, 0, none⟩ : Addr).add j = ⟨g, j, none⟩ by unfold Addr.add; split <;> simp_all] at this
theorem NRow.made {W : World} {base g n : Nat} (h : W.ownsRow base 3 1 (.slice (some ⟨g, 0, none⟩) n n) n (madeCells (Value.int .i64 0).cells (n * 1)).toList) (lo : Nat) (hl : lo ≤ g) : NRow lo n W g n (fun _ => 0) := by
  refine ⟨hl, (h.lt g rfl).2, Nat.le_refl _, fun j hj => ?_, fun j hj => own_frozen h rfl j⟩
  have := h.cells (g := g) rfl j (.int .i64 0) (by
    rw [show (Value.int .i64 0).cells = #[Value.int .i64 0] by rfl, Nat.mul_one, toList_madeCells_one, List.getElem?_replicate, if_pos hj])
  rwa [show (⟨g, 0, none⟩ : Addr).add j = ⟨g, j, none⟩ by unfold Addr.add; split <;> simp_all] at this
theorem NRow.set {lo n : Nat} {W : World} {g cp : Nat} {f f2 : Nat → Int} (h : NRow lo n W g cp f) (j : Nat) (v : Int) (hj : j < n) (e1 : f2 j = v) (e2 : ∀ l, l < n → l ≠ j → f2 l = f l) : NRow lo n (W.setCell ⟨g, j, none⟩ (.int .i64 v)) g cp f2 :=
  ⟨h.lo, by simpa using h.hb, h.cap, fun l hl => by
    by_cases e : l = j
    · subst e
      rw [e1]
      exact World.cell?_setCell_same' _ _ _ (by rw [h.cell l hl]; rfl)
    · rw [e2 l hl e, World.cell?_setCell_other _ _ _ _ (adr_ne (b := g) (i := j) (j := l) (fun q => e q.symm))]
      exact h.cell l hl, fun l hl => by simpa using h.fz l hl⟩
theorem NRow.irow {lo n : Nat} {W : World} {g cp : Nat} {f : Nat → Int} (h : NRow lo n W g cp f) : IRow W (some ⟨g, 0, none⟩) n f := fun _ => ⟨g, 0, rfl, h.hb, fun j hj => by rw [Nat.zero_add]; exact h.cell j hj⟩
theorem NRow.cong {lo n : Nat} {W : World} {g cp : Nat} {f f2 : Nat → Int} (h : NRow lo n W g cp f) (e : ∀ l, l < n → f2 l = f l) : NRow lo n W g cp f2 := ⟨h.lo, h.hb, h.cap, fun l hl => by rw [e l hl]; exact h.cell l hl, h.fz⟩
theorem NRow.below {lo n : Nat} {W : World} {g cp : Nat} {f : Nat → Int} (h : NRow lo n W g cp f) {j : Nat} (v : Value) {B : Nat} {w : World} (hb : Below B w W) (hl : B ≤ lo) : Below B w (W.setCell ⟨g, j, none⟩ v) := hb.setCell (Nat.le_trans hl h.lo) _
theorem intsD_succ (n : Nat) (f : Nat → Int) : ((List.range (n + 1)).map fun j => Value.int .i64 (f j)) = ((List.range n).map fun j => Value.int .i64 (f j)) ++ [.int .i64 (f n)] := by
  rw [List.range_succ, List.map_append]; rfl
end Go.Proofs.YtcghjjfpjiacfaaDoor
