/- A region that draws its order, operation by operation: a relation between what has been carried out and the state is kept by each operation that may come up; so each is walked once, in whatever order they come. -/
import Derived.Test.YtggpdhdbeokkcaaGreatRLawStore
import Derived.Deep.RegionHeld3
namespace Go.Proofs.YtggpdhdbeokkcaaGreat
set_option linter.unusedVariables false
open Go.RowKit Go.Shelf

section
variable {P : Program} {ops : Array Oper} {Q : Exit → Act → World → Prop}

/-- One operation more has been carried out. -/
def upd (L : Nat → Bool) (i : Nat) : Nat → Bool := fun j => if j = i then true else L j
/-- What holds once operation j has been carried out. -/
def Had (L : Nat → Bool) (j : Nat) (p : Prop) : Prop := L j = true → p
theorem Had.keep {L : Nat → Bool} {i j : Nat} {p : Prop} (h : Had L j p) (hne : (j == i) = false) : Had (upd L i) j p := fun hl => h (by
 unfold upd at hl
 rw [if_neg (by simpa using hne)] at hl
 exact hl)
theorem Had.keepM {L : Nat → Bool} {i j : Nat} {p q : Prop} (h : Had L j p) (hne : (j == i) = false) (hpq : p → q) : Had (upd L i) j q := fun hl => hpq (h.keep hne hl)
theorem Had.none {j : Nat} {p : Prop} : Had (fun _ => false) j p := fun h => by cases h
/-- Two operations have been carried out. -/
def Had2 (L : Nat → Bool) (i j : Nat) (p : Prop) : Prop := L i = true → L j = true → p

theorem Had2.keep {L : Nat → Bool} {i j k : Nat} {p : Prop} (h : Had2 L j k p) (h1 : (j == i) = false) (h2 : (k == i) = false) : Had2 (upd L i) j k p := fun a b => h (by
 unfold upd at a
 rw [if_neg (by simpa using h1)] at a
 exact a) (by
 unfold upd at b
 rw [if_neg (by simpa using h2)] at b
 exact b)
theorem upd_on {L : Nat → Bool} {i j : Nat} (h : L j = true) : upd L i j = true := by unfold upd; split <;> simp [h]
theorem Had.o {L : Nat → Bool} {i j : Nat} {l : List Nat} (h : Had L j (∀ k ∈ l, L k = true)) (hne : (j == i) = false := by rfl) : Had (upd L i) j (∀ k ∈ l, upd L i k = true) := h.keepM hne (fun h j hj => upd_on (h j hj))
theorem Had.k {L : Nat → Bool} {i j : Nat} {p : Prop} (h : Had L j p) (hne : (j == i) = false := by rfl) : Had (upd L i) j p := h.keep hne
theorem upd_self {L : Nat → Bool} {i : Nat} : upd L i i = true := by unfold upd; simp
theorem upd_false {L : Nat → Bool} {i j : Nat} (h : upd L i j = false) : L j = false := by
 unfold upd at h
 split at h
 ·cases h
 ·exact h
theorem upd_back {L : Nat → Bool} {i j : Nat} (h : upd L i j = true) (hne : (j == i) = false) : L j = true := by
 unfold upd at h
 rw [if_neg (by simpa using hne)] at h
 exact h
/-- What waits for j has not been carried out, as j has not. -/
theorem Had.not {L : Nat → Bool} {j k : Nat} {js : List Nat} (h : Had L k (∀ j ∈ js, L j = true)) (hj : L j = false) (hm : js.contains j = true) : L k = false := by
 cases hk : L k
 ·rfl
 ·have := h hk j (by simpa using hm)
  rw [hj] at this; cases this

/-- Operation i waits for operation k. -/
def waits (ops : Array Oper) (i k : Nat) : Bool := ((ops[i]?).map fun o => o.after.any fun e => e.on == k && Region.binds .any e).getD false
/-- Each operation waits for earlier ones alone. -/
def onward (ops : Array Oper) : Bool := (List.range ops.size).all fun i => ((ops[i]?).map fun o => o.after.all fun e => !Region.binds .any e || decide (e.on < i)).getD true

theorem ready_all {listed : Array Bool} (hon : onward ops = true) (hs : listed.size = ops.size) (hr : Region.ready .any ops listed = []) : ∀ i, i < ops.size → listed.getD i false = true := by
 intro i
 induction i using Nat.strongRecOn with
 | ind i ih =>
  intro hi
  by_cases h : listed.getD i false = true
  ·exact h
  ·exfalso
   have h2 : listed.getD i true = false := by
    have hl : i < listed.size := by omega
    simp [hl] at h ⊢
    exact h
   have hm : i ∈ Region.ready .any ops listed := by
    refine mem_ready.2 ⟨h2, ops[i], by simp [hi], fun e he hb => ?_⟩
    have h3 := (List.all_eq_true.1 hon) i (by simpa using hi)
    simp only [Array.getElem?_eq_getElem hi, Option.map_some, Option.getD_some, Array.all_eq_true_iff_forall_mem] at h3
    have h4 := h3 e he
    rw [hb] at h4
    have h5 : e.on < i := by simpa using h4
    exact ih _ h5 (by omega)
   rw [hr] at hm
   cases hm

theorem wpAny_each (J : (Nat → Bool) → Act → World → Prop) (hon : onward ops = true)
  (hend : ∀ L a w, J L a w → (∀ i, i < ops.size → L i = true) → Q .normal a w)
  (hstep : ∀ i, i < ops.size → ∀ L a w, J L a w → L i = false → (∀ k, waits ops i k = true → L k = true) → wpOp P ops Q i (fun a' w' => J (upd L i) a' w') a w) :
  ∀ (fuel : Nat) (listed : Array Bool) (a : Act) (w : World), listed.size = ops.size → listed.toList.count false ≤ fuel → J (fun i => listed.getD i false) a w → wpAny P .any ops Q fuel listed a w := by
 intro fuel
 induction fuel with
 | zero =>
  intro listed a w hs hc hJ
  have hz : ∀ i, i < ops.size → listed.getD i false = true := fun i hi => by
   have hl : i < listed.size := by omega
   have h0 : listed.toList.count false = 0 := by omega
   have h1 := (List.count_eq_zero.1 h0)
   have h2 : listed[i] ∈ listed.toList := by simp
   simp [hl]
   cases hb : listed[i]
   ·rw [hb] at h2; exact absurd h2 h1
   ·rfl
  refine ⟨?_, hend _ _ _ hJ hz⟩
  cases hr : Region.ready .any ops listed with
  | nil => rfl
  | cons j r =>
   have hm : j ∈ Region.ready .any ops listed := by rw [hr]; simp
   obtain ⟨h0, o, ho, _⟩ := mem_ready.1 hm
   have hj : j < ops.size := (Array.getElem?_eq_some_iff.1 ho).1
   have h1 := hz j hj
   have hl : j < listed.size := by omega
   simp [hl] at h0 h1
   rw [h0] at h1; cases h1
 | succ fuel ih =>
  intro listed a w hs hc hJ
  refine ⟨fun hr => hend _ _ _ hJ (ready_all hon hs hr), fun i hi => ?_⟩
  obtain ⟨h0, o, ho, hall⟩ := mem_ready.1 hi
  have hj : i < ops.size := (Array.getElem?_eq_some_iff.1 ho).1
  have hl : i < listed.size := by omega
  have hw : ∀ k, waits ops i k = true → listed.getD k false = true := fun k hk => by
   unfold waits at hk
   rw [ho] at hk
   simp only [Option.map_some, Option.getD_some, Array.any_eq_true'] at hk
   obtain ⟨e, he, hb⟩ := hk
   simp only [Bool.and_eq_true, beq_iff_eq] at hb
   rw [← hb.1]
   exact hall e he hb.2
  refine wpOp_mono (fun a' w' h => ih (listed.setIfInBounds i true) a' w' (by simpa using hs) ?_ ?_) (hstep i hj _ a w hJ (by simpa [hl] using h0) hw)
  ·have h1 : listed[i] = false := by simpa [hl] using h0
   have h2 : (listed.setIfInBounds i true).toList.count false + 1 = listed.toList.count false := by
    rw [Array.toList_setIfInBounds, List.count_set (by simpa using hl)]
    have h3 : 0 < listed.toList.count false := List.count_pos_iff.2 (by rw [← h1]; simp)
    rw [Array.getElem_toList, h1, if_pos (by rfl), if_neg (by simp)]
    omega
   omega
  ·have e : (fun j => (listed.setIfInBounds i true).getD j false) = upd (fun j => listed.getD j false) i := by
    funext j
    unfold upd
    by_cases hji : j = i
    ·subst hji; simp [hl]
    ·rw [if_neg hji, getD_set_ne false (Ne.symm hji)]
   rw [e]
   exact h

/-- The operations of a list, each walked once. -/
def EachOf (P : Program) (ops : Array Oper) (Q : Exit → Act → World → Prop) (J : (Nat → Bool) → Act → World → Prop) (rs : List Nat) : Prop :=
 ∀ i ∈ rs, ∀ L a w, J L a w → L i = false → (∀ k, waits ops i k = true → L k = true) → wpOp P ops Q i (fun a' w' => J (upd L i) a' w') a w
theorem EachOf.nil {J : (Nat → Bool) → Act → World → Prop} : EachOf P ops Q J [] := fun _ h => by cases h
theorem EachOf.cons {J : (Nat → Bool) → Act → World → Prop} {i : Nat} {o : Oper} {rs : List Nat} (ds : List Nat) (ho : ops[i]? = some o) (hds : ds.all (waits ops i) = true)
  (h : ∀ L a w, J L a w → L i = false → (∀ k ∈ ds, L k = true) → ∀ K' : Act → World → Prop, Shut (∀ a w, J (upd L i) a w → K' a w) → if Region.wanted o (yielded ops a.tmps) = true then Oper.wp P o a w K' Q else K' (a.put o.dst undef) w)
  (hs : EachOf P ops Q J rs) : EachOf P ops Q J (i :: rs) := fun j hj => by
 rcases List.mem_cons.1 hj with rfl | hj
 ·exact fun L a w hJ hi hw => wpOp_step ho (fun K' hK => h L a w hJ hi (fun k hk => hw k (List.all_eq_true.1 hds k hk)) K' hK)
 ·exact hs j hj

theorem wp_region_each {id : Nat} {a : Act} {w : World} (J : (Nat → Bool) → Act → World → Prop) (hm : P.follows .mixedOrders = true) (hon : onward ops = true)
  (h0 : J (fun _ => false) a w.drew) {rs : List Nat} (hrs : List.range ops.size = rs) (hstep : EachOf P ops Q J rs)
  (hend : ∀ L a w, J L a w → (∀ i ∈ rs, L i = true) → Q .normal a w) : (Code.region id ops true).wp P Q a w := by
 refine wp_region_any hm (wpAny_each J hon (fun L a w hJ hL => hend L a w hJ (fun i hi => hL i (by rw [← hrs] at hi; simpa using hi))) (fun i hi => hstep i (by rw [← hrs]; simpa using hi)) ops.size _ a _ (by simp) ?_ ?_)
 ·simp
 ·have e : (fun i => (Array.replicate ops.size false).getD i false) = fun _ => false := by
   funext i
   by_cases hi : i < ops.size
   ·simp [hi]
   ·simp [hi]
  rw [e]
  exact h0
end

/-- A block that the region has made itself. -/
def Own (n : Nat) (W : World) (g : Nat) : Prop := n ≤ g ∧ (∃ v0 v1, Blk W g v0 v1) ∧ Frz W g
theorem Own.on {n : Nat} {W W2 : World} {g : Nat} (h : Own n W g) (hb : Below W.heap.size W W2) : Own n W2 g := by
 obtain ⟨h0, ⟨v0, v1, h1⟩, h2⟩ := h
 exact ⟨h0, ⟨v0, v1, h1.on hb⟩, h2.on h1.1 hb⟩
theorem Own.set {n : Nat} {W : World} {g c : Nat} {x y : Value} (h : Own n W g) : Own n ((W.setCell ⟨c, 0, none⟩ x).setCell ⟨c, 1, none⟩ y) g := by
 obtain ⟨h0, ⟨v0, v1, h1⟩, h2⟩ := h
 by_cases hc : c = g
 ·subst hc
  exact ⟨h0, ⟨_, _, h1.set⟩, h2.set⟩
 ·exact ⟨h0, ⟨_, _, h1.far hc⟩, h2.set⟩
theorem Own.new {n : Nat} (W : World) (v0 v1 : Value) (t : Nat) (h : n ≤ W.heap.size) : Own n (W.alloc (Obj.cells #[v0, v1] t)) W.heap.size := ⟨h, ⟨_, _, Blk.new _ _ _ _⟩, Frz.new _ _ _ _⟩
theorem Own.lt {n : Nat} {W : World} {g : Nat} (h : Own n W g) : g < W.heap.size := by
 obtain ⟨_, ⟨_, _, h1⟩, _⟩ := h
 exact h1.1
theorem Own.setw {n : Nat} {W : World} {g : Nat} {x y : Value} (h : Own n W g) : Blk ((W.setCell ⟨g, 0, none⟩ x).setCell ⟨g, 1, none⟩ y) g x y := by
 obtain ⟨h0, ⟨v0, v1, h1⟩, h2⟩ := h
 exact h1.set

end Go.Proofs.YtggpdhdbeokkcaaGreat
