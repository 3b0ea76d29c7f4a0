/- Layer 4: the reference's Copy and Turned. -/
import Derived.Test.YtjggnmbdgagkoaaLTrn
namespace Go.Proofs.Ytjggnmbdgagkoaa
set_option linter.unusedVariables false
open Go.RowKit Go.Shelf

/-- Rows that are appended one after the other. -/
structure RGw (B : Nat) (W : World) (n i : Nat) (G C : Nat → Nat) (M : Nat → Nat → Int) (rv : Value) : Prop where
  own : W.ownsRow B 29 1 rv i ((List.range i).map fun l => Value.slice (some ⟨G l, 0, none⟩) n (C l))
  row : ∀ l, l < i → B ≤ G l ∧ G l < W.heap.size ∧ rv.ownBlock ≠ some (G l)
  cap : ∀ l, l < i → n ≤ C l
  inj : ∀ l k, l < i → k < i → G l = G k → l = k
  cell : ∀ l j, l < i → j < n → W.cell? ⟨G l, j, none⟩ = some (.int .i64 (M l j))
  fz : ∀ l j, l < i → j < n → W.frozen? ⟨G l, j, none⟩ = false
theorem RGw.nil (B : Nat) (W : World) (n : Nat) (M : Nat → Nat → Int) : RGw B W n 0 (fun _ => 0) (fun _ => 0) M (.slice none 0 0) :=
  ⟨World.ownsRow_nil _ _ _ _, fun l h => by omega, fun l h => by omega, fun l k h => by omega, fun l j h => by omega, fun l j h => by omega⟩
theorem RGw.on {B : Nat} {W W2 : World} {n i : Nat} {G C : Nat → Nat} {M : Nat → Nat → Int} {rv : Value} (h : RGw B W n i G C M rv) (hb : Below W.heap.size W W2) : RGw B W2 n i G C M rv where
  own := own_only h.own (Only.of_below (S := fun _ => False) hb) (fun _ _ q => q)
  row l hl := ⟨(h.row l hl).1, Nat.lt_of_lt_of_le (h.row l hl).2.1 hb.size, (h.row l hl).2.2⟩
  cap := h.cap
  inj := h.inj
  cell l j hl hj := (hb.cell (p := ⟨G l, j, none⟩) (h.row l hl).2.1).trans (h.cell l j hl hj)
  fz l j hl hj := (hb.frozen (p := ⟨G l, j, none⟩) (h.row l hl).2.1).trans (h.fz l j hl hj)
theorem RGw.push {B : Nat} {W W2 : World} {n i : Nat} {G C : Nat → Nat} {M : Nat → Nat → Int} {rv : Value} {g cp q cap : Nat} (h : RGw B W n i G C M rv) (hr : NRow B n W g cp (M i)) (n1 : ∀ l, l < i → G l ≠ g) (n2 : rv.ownBlock ≠ some g)
    (ho : W2.ownsRow B 29 1 (.slice (some ⟨q, 0, none⟩) (i + 1) cap) (i + 1) (((List.range i).map fun l => Value.slice (some ⟨G l, 0, none⟩) n (C l)) ++ [.slice (some ⟨g, 0, none⟩) n cp])) (hg : W.grownBy W2 rv.ownBlock) (ha : rv.ownBlock = some q ∨ q = W.heap.size) :
    RGw B W2 n (i + 1) (updN G i g) (updN C i cp) M (.slice (some ⟨q, 0, none⟩) (i + 1) cap) := by
  have oo : Only (fun c => rv.ownBlock = some c) W W2 := grown_only (Below.refl W.heap.size W) hg
  have far : ∀ c, c < W.heap.size → rv.ownBlock ≠ some c → (Value.slice (some ⟨q, 0, none⟩) (i + 1) cap).ownBlock ≠ some c := fun c hc hn e => by
    have e2 : q = c := by simpa [Value.ownBlock] using e
    rcases ha with ha | ha
    · exact hn (by rw [ha, e2])
    · omega
  have row := hr.only oo n2
  have pick : ∀ l, l < i + 1 → (l = i ∧ updN G i g l = g ∧ updN C i cp l = cp) ∨ (l < i ∧ updN G i g l = G l ∧ updN C i cp l = C l) := fun l hl => by
    unfold updN
    by_cases e : l = i
    · exact .inl ⟨e, if_pos e, if_pos e⟩
    · exact .inr ⟨by omega, if_neg e, if_neg e⟩
  refine ⟨by rw [row_list]; exact ho, fun l hl => ?_, fun l hl => ?_, fun l k hl hk e => ?_, fun l j hl hj => ?_, fun l j hl hj => ?_⟩
  · rcases pick l hl with ⟨_, e1, _⟩ | ⟨h1, e1, _⟩
    · rw [e1]; exact ⟨hr.lo, row.hb, far g hr.hb n2⟩
    · rw [e1]; exact ⟨(h.row l h1).1, Nat.lt_of_lt_of_le (h.row l h1).2.1 oo.size, far _ (h.row l h1).2.1 (h.row l h1).2.2⟩
  · rcases pick l hl with ⟨_, _, e1⟩ | ⟨h1, _, e1⟩
    · rw [e1]; exact hr.cap
    · rw [e1]; exact h.cap l h1
  · rcases pick l hl with ⟨e0, e1, _⟩ | ⟨h1, e1, _⟩ <;> rcases pick k hk with ⟨f0, f1, _⟩ | ⟨k1, f1, _⟩ <;> rw [e1, f1] at e
    · omega
    · exact absurd e.symm (n1 k k1)
    · exact absurd e (n1 l h1)
    · exact h.inj l k h1 k1 e
  · rcases pick l hl with ⟨e0, e1, _⟩ | ⟨h1, e1, _⟩
    · rw [e1, e0]; exact row.cell j hj
    · rw [e1, oo.cell (p := ⟨G l, j, none⟩) (h.row l h1).2.1 (h.row l h1).2.2]
      exact h.cell l j h1 hj
  · rcases pick l hl with ⟨e0, e1, _⟩ | ⟨h1, e1, _⟩
    · rw [e1]; exact row.fz j hj
    · rw [e1, oo.frozen (p := ⟨G l, j, none⟩) (h.row l h1).2.1 (h.row l h1).2.2]
      exact h.fz l j h1 hj
theorem RGw.grid {B : Nat} {W : World} {n R : Nat} {G C : Nat → Nat} {M : Nat → Nat → Int} {rv : Value} (h : RGw B W n R G C M rv) (hR : 0 < R) : ∃ b Cb, rv = .slice (some ⟨b, 0, none⟩) R Cb ∧ R ≤ Cb ∧ Grid B W b R n G C M := by
  have ho := h.own
  rcases h.own.2 with ⟨_, h0⟩ | ⟨b, Cb, cur, hv, hb, hg, hc, _⟩
  · omega
  · have rb : rv.ownBlock = some b := by rw [hv]; rfl
    refine ⟨b, Cb, hv, hc, ⟨hb, (Array.getElem?_eq_some_iff.1 hg).1, fun i hi => ?_, fun i hi => own_frozen ho rb i, fun i hi => ⟨(h.row i hi).1, (h.row i hi).2.1, fun e => (h.row i hi).2.2 (by rw [rb, e])⟩, h.cap, h.inj, h.cell, h.fz⟩⟩
    have := ho.cells rb i (.slice (some ⟨G i, 0, none⟩) n (C i)) (by simp [hi])
    rwa [show (⟨b, 0, none⟩ : Addr).add i = ⟨b, i, none⟩ by unfold Addr.add; split <;> simp_all] at this

theorem intsC_succ (n : Nat) (f : Nat → Int) : ((List.range (n + 1)).map fun j => Value.int .i64 (f j)) = ((List.range n).map fun j => Value.int .i64 (f j)) ++ [.int .i64 (f n)] := by
  rw [List.range_succ, List.map_append]; rfl
theorem intsC_one (n : Nat) (f : Nat → Int) : ∀ u ∈ (List.range n).map (fun j => Value.int .i64 (f j)), u.oneCell' = true := by
  intro u hu
  obtain ⟨x, _, rfl⟩ := List.mem_map.1 hu
  rfl
theorem intsC_cells {W : World} {g o n : Nat} {f : Nat → Int} (h : ∀ j, j < n → W.cell? ⟨g, o + j, none⟩ = some (.int .i64 (f j))) : ∀ j u, ((List.range n).map fun j => Value.int .i64 (f j))[j]? = some u → W.cell? ((⟨g, o, none⟩ : Addr).add j) = some u := fun j u hu => by
  have hj : j < n := by
    rcases Nat.lt_or_ge j n with g | g
    · exact g
    · rw [List.getElem?_eq_none (by simpa using g)] at hu; cases hu
  simp [hj] at hu
  subst hu
  rw [show (⟨g, o, none⟩ : Addr).add j = ⟨g, o + j, none⟩ by unfold Addr.add; split <;> simp_all]
  exact h j hj

set_option maxRecDepth 100000 in
set_option maxHeartbeats 16000000 in
theorem refCopy_any (mb mo mc R n nr rc n' : Nat) (Ga Oa Ka : Nat → Nat) (Z M' : Nat → Nat → Int) (ra : Option Addr) (f : Nat → Int) (w : World) (hM : Mat w mb mo R n Ga Oa Ka Z) (hR0 : 0 < R) (hR13 : R ≤ 13) (hn0 : 0 < n) (hn13 : n ≤ 13) (hr : IRow w ra nr f)
    (hc : (nr = 0 ∧ n' = n ∧ M' = Z) ∨ (nr = R ∧ n' = n + 1 ∧ M' = extE n Z f)) :
    Calls Try.prog 36 #[.slice (some ⟨mb, mo, none⟩) R mc, .slice ra nr rc] w fun e w' => ∃ b Cb G C, e = .returned (.slice (some ⟨b, 0, none⟩) R Cb) ∧ R ≤ Cb ∧ Below w.heap.size w w' ∧ Grid w.heap.size w' b R n' G C M' := by
  have HM := Lib.hid hM
  have HR := Lib.hid hr
  clear hM hr
  obtain ⟨i0, hi0, hz0, hz1, hz2⟩ := info_parts (show (Try.prog.info? 3).map (fun i => (i.zero, i.size, i.bytes)) = some (some (Value.int IntKind.i64 0), 1, 8) by kernel_rfl)
  obtain ⟨i1, hi1, hy0, hy1, hy2⟩ := info_parts (show (Try.prog.info? 29).map (fun i => (i.zero, i.size, i.bytes)) = some (some (Value.slice none 0 0), 1, 24) by kernel_rfl)
  go_enter Try.func36, Try.ntmps36
  go_wp2_with fail
  have S0 : Hid (RGw w.heap.size w n' 0 (fun _ => 0) (fun _ => 0) M' (.slice none 0 0) ∧ Below w.heap.size w w) := ⟨RGw.nil _ _ _ _, Below.refl _ _⟩
  go_loopg [6, 5] R (fun g s6 s5 wx => ∃ i : Nat, s6 = .int .i64 i ∧ g = R - i ∧ i ≤ R ∧ ∃ G C, Hid (RGw w.heap.size wx n' i G C M' s5 ∧ Below w.heap.size w wx))
  case atStart => exact ⟨0, rfl, rfl, Nat.zero_le _, _, _, S0⟩
  case round =>
    clear S0
    obtain ⟨i, rfl, rfl, hi, G, C, S⟩ := hrel
    rename World => W1
    by_cases hlt : i < R
    · have wk : IntKind.i64.wrap ((i : Int) + 1) = ((i + 1 : Nat) : Int) := by rw [IntWalk.i64_in _ (by omega)]; omega
      obtain ⟨pa, pc, hpv⟩ := own_form S.out.1.own
      subst hpv
      have M1 := HM.out.on S.out.2
      have hlo := S.out.2.size
      have O : Hid ((W1.alloc (Obj.cells #[] 3)).ownsRow W1.heap.size 3 1 (.slice (some ⟨W1.heap.size, 0, none⟩) 0 0) 0 []) := World.ownsRow_made W1 #[] 0 (Nat.le_refl _) (by unfold maxLen; omega) rfl
      have BA : Hid (Below W1.heap.size W1 (W1.alloc (Obj.cells #[] 3))) := (Below.refl _ _).alloc (Nat.le_refl _) _
      have NW : Hid (∀ j u, ((List.range n).map fun j => Value.int .i64 (Z i j))[j]? = some u → (W1.alloc (Obj.cells #[] 3)).cell? ((⟨Ga i, Oa i, none⟩ : Addr).add j) = some u) := intsC_cells ((M1.on BA.out).cell i · hlt)
      have p1 := (M1.on BA.out).top i hlt
      clear M1
      go_upto_region 6 with (at_builtin; refine wpList_append_own _ rfl _ _ 29 rfl W1.heap.size 3 i0 (.int .i64 0) 1 8 Try.underlying29 hi0 hz0 hz1 hz2 rfl (by decide) _ _ _ rfl O.out ⟨Ga i, Oa i, none⟩ n (Ka i) ((List.range n).map fun j => Value.int .i64 (Z i j)) rfl (by simp) NW.out (intsC_one n (Z i)) (by unfold maxLen; omega) (by omega) (by simp) ?_; intro v' w9 hown hgrow _)
      have HK : Hid (Below W1.heap.size W1 w9) := below_grown BA.out O.out hgrow
      rw [Nat.zero_add, List.nil_append] at hown
      obtain ⟨va, vc, hvv⟩ := own_form hown
      subst hvv
      have HO := Lib.hid hown
      clear hown hgrow O BA NW p1
      rcases hc with ⟨rfl, rfl, rfl⟩ | ⟨rfl, rfl, rfl⟩
      · have t1 : ¬ (i : Int) < 0 := by omega
        have t2 : ¬ (i : Int) < ((0 : Nat) : Int) := by omega
        obtain ⟨g, cp, hgv, hN⟩ := own_nrow HO.out hn0
        injection hgv with hga hgb hgc
        subst hga; subst hgc
        have HN := Lib.hid hN
        clear HO hN hgb
        have OA : Hid ((w9.alloc (Obj.cells #[.slice (some ⟨g, 0, none⟩) n' vc] 29)).ownsRow w.heap.size 29 1 (.slice pa i pc) i ((List.range i).map fun l => Value.slice (some ⟨G l, 0, none⟩) n' (C l))) := ((S.out.1.on HK.out).on ((Below.refl _ _).alloc (Nat.le_refl _) _)).own
        have NA : Hid (∀ j u, [Value.slice (some ⟨g, 0, none⟩) n' vc][j]? = some u → (w9.alloc (Obj.cells #[.slice (some ⟨g, 0, none⟩) n' vc] 29)).cell? ((⟨w9.heap.size, 0, none⟩ : Addr).add j) = some u) := one_news (by simp [go_sem])
        have BA : Hid (Below w9.heap.size w9 (w9.alloc (Obj.cells #[.slice (some ⟨g, 0, none⟩) n' vc] 29))) := (Below.refl _ _).alloc (Nat.le_refl _) _
        have hle : w.heap.size ≤ (w9.alloc (Obj.cells #[.slice (some ⟨g, 0, none⟩) n' vc] 29)).heap.size := Nat.le_trans (Nat.le_trans hlo HK.out.size) BA.out.size
        go_wp2_with (at_builtin; refine wpList_append_lies _ rfl _ _ 23 rfl w.heap.size 29 i1 (.slice none 0 0) 1 24 Try.underlying23 hi1 hy0 hy1 hy2 rfl (by decide) _ _ _ rfl OA.out ⟨w9.heap.size, 0, none⟩ 1 1 [.slice (some ⟨g, 0, none⟩) n' vc] rfl rfl NA.out (by intro u hu; simp at hu; subst hu; rfl) (by omega) (by unfold maxLen; omega) (by omega) hle _ rfl ?_; intro q cap W3 hown hgrow hat _)
        have T : Hid (RGw w.heap.size W3 n' (i + 1) (updN G i g) (updN C i vc) M' (.slice (some ⟨q, 0, none⟩) (i + 1) cap) ∧ Below w.heap.size w W3) :=
          ⟨((S.out.1.on HK.out).on BA.out).push ((HN.out.on BA.out).mono hlo) (fun l hl e => by have := (S.out.1.row l hl).2.1; have := HN.out.lo; omega) (fun e => by have := (S.out.1.own.lt g e).2; have := HN.out.lo; omega) hown hgrow hat,
            below_grown (below_on (below_on S.out.2 HK.out) BA.out) OA.out hgrow⟩
        clear hown hgrow hat OA NA BA HN HK S hlo hle
        go_wp2_with fail
        go_roundg (R - (i + 1))
        case measure => omega
        case rel => exact ⟨i + 1, rfl, rfl, by omega, _, _, T⟩
      · have t2 : (i : Int) < (nr : Int) := by omega
        obtain ⟨rg, ro, hra, hrg, hrc⟩ := HR.out (by omega)
        subst hra
        have pr := ((below_on S.out.2 HK.out).cell (p := ⟨rg, ro + i, none⟩) hrg).trans (hrc i hlt)
        have O : Hid ((w9.alloc (Obj.cells #[.int .i64 (f i)] 3)).ownsRow W1.heap.size 3 1 (.slice va n vc) n ((List.range n).map fun j => Value.int .i64 (Z i j))) := own_only HO.out (Only.of_below (S := fun _ => False) ((Below.refl _ _).alloc (Nat.le_refl _) _)) (fun _ _ q => q)
        have BA : Hid (Below w9.heap.size w9 (w9.alloc (Obj.cells #[.int .i64 (f i)] 3))) := (Below.refl _ _).alloc (Nat.le_refl _) _
        have NW : Hid (∀ j u, [Value.int .i64 (f i)][j]? = some u → (w9.alloc (Obj.cells #[.int .i64 (f i)] 3)).cell? ((⟨w9.heap.size, 0, none⟩ : Addr).add j) = some u) := one_news (by simp [go_sem])
        have hle9 : W1.heap.size ≤ (w9.alloc (Obj.cells #[.int .i64 (f i)] 3)).heap.size := Nat.le_trans HK.out.size BA.out.size
        go_upto_region 8 with (at_builtin; refine wpList_append_own _ rfl _ _ 29 rfl W1.heap.size 3 i0 (.int .i64 0) 1 8 Try.underlying29 hi0 hz0 hz1 hz2 rfl (by decide) _ _ _ rfl O.out ⟨w9.heap.size, 0, none⟩ 1 1 [.int .i64 (f i)] rfl rfl NW.out (by intro u hu; simp at hu; subst hu; rfl) (by unfold maxLen; omega) (by omega) hle9 ?_; intro v2 w10 hown hgrow _)
        have HK2 : Hid (Below W1.heap.size W1 w10) := below_grown (below_on HK.out BA.out) O.out hgrow
        have el : ((List.range n).map fun j => Value.int .i64 (Z i j)) ++ [.int .i64 (f i)] = (List.range (n + 1)).map fun j => Value.int .i64 (extE n Z f i j) := by
          rw [intsC_succ, show extE n Z f i n = f i by unfold extE catF; exact if_pos rfl]
          congr 1
          apply List.map_congr_left
          intro j hj
          have : j < n := by simpa using hj
          unfold extE catF
          rw [if_neg (by omega)]
        rw [el] at hown
        obtain ⟨g, cp, hgv, hN⟩ := own_nrow hown (by omega)
        subst hgv
        have HN := Lib.hid hN
        clear HO hN hown hgrow O NW BA el pr hrg hrc HK
        have OA : Hid ((w10.alloc (Obj.cells #[.slice (some ⟨g, 0, none⟩) (n + 1) cp] 29)).ownsRow w.heap.size 29 1 (.slice pa i pc) i ((List.range i).map fun l => Value.slice (some ⟨G l, 0, none⟩) (n + 1) (C l))) := ((S.out.1.on HK2.out).on ((Below.refl _ _).alloc (Nat.le_refl _) _)).own
        have NA : Hid (∀ j u, [Value.slice (some ⟨g, 0, none⟩) (n + 1) cp][j]? = some u → (w10.alloc (Obj.cells #[.slice (some ⟨g, 0, none⟩) (n + 1) cp] 29)).cell? ((⟨w10.heap.size, 0, none⟩ : Addr).add j) = some u) := one_news (by simp [go_sem])
        have BA : Hid (Below w10.heap.size w10 (w10.alloc (Obj.cells #[.slice (some ⟨g, 0, none⟩) (n + 1) cp] 29))) := (Below.refl _ _).alloc (Nat.le_refl _) _
        have hle : w.heap.size ≤ (w10.alloc (Obj.cells #[.slice (some ⟨g, 0, none⟩) (n + 1) cp] 29)).heap.size := Nat.le_trans (Nat.le_trans hlo HK2.out.size) BA.out.size
        go_wp2_with (at_builtin; refine wpList_append_lies _ rfl _ _ 23 rfl w.heap.size 29 i1 (.slice none 0 0) 1 24 Try.underlying23 hi1 hy0 hy1 hy2 rfl (by decide) _ _ _ rfl OA.out ⟨w10.heap.size, 0, none⟩ 1 1 [.slice (some ⟨g, 0, none⟩) (n + 1) cp] rfl rfl NA.out (by intro u hu; simp at hu; subst hu; rfl) (by omega) (by unfold maxLen; omega) (by omega) hle _ rfl ?_; intro q cap W3 hown hgrow hat _)
        have T : Hid (RGw w.heap.size W3 (n + 1) (i + 1) (updN G i g) (updN C i cp) (extE n Z f) (.slice (some ⟨q, 0, none⟩) (i + 1) cap) ∧ Below w.heap.size w W3) :=
          ⟨((S.out.1.on HK2.out).on BA.out).push ((HN.out.on BA.out).mono hlo) (fun l hl e => by have := (S.out.1.row l hl).2.1; have := HN.out.lo; omega) (fun e => by have := (S.out.1.own.lt g e).2; have := HN.out.lo; omega) hown hgrow hat,
            below_grown (below_on (below_on S.out.2 HK2.out) BA.out) OA.out hgrow⟩
        clear hown hgrow hat OA NA BA HN HK2 S hlo hle
        go_wp2_with fail
        go_roundg (nr - (i + 1))
        case measure => omega
        case rel => exact ⟨i + 1, rfl, rfl, by omega, _, _, T⟩
    · have e : i = R := by omega
      subst e
      obtain ⟨b, Cb, hv, hcb, hG⟩ := S.out.1.grid hR0
      subst hv
      have HG := Lib.hid hG
      have HB := Lib.hid S.out.2
      clear S hG
      go_wp2_with fail
      go_ret
      exact ⟨b, Cb, G, C, rfl, hcb, HB.out, HG.out⟩

set_option maxRecDepth 100000 in
set_option maxHeartbeats 16000000 in
theorem refTurned_any (mb mo mc R n : Nat) (Ga Oa Ka : Nat → Nat) (Z : Nat → Nat → Int) (w : World) (hM : Mat w mb mo R n Ga Oa Ka Z) (hR0 : 0 < R) (hR13 : R ≤ 13) (hn0 : 0 < n) (hn13 : n ≤ 13) :
    Calls Try.prog 35 #[.slice (some ⟨mb, mo, none⟩) R mc] w fun e w' => ∃ b Cb G C, e = .returned (.slice (some ⟨b, 0, none⟩) n Cb) ∧ n ≤ Cb ∧ Below w.heap.size w w' ∧ Grid w.heap.size w' b n R G C (fun l i => Z i l) := by
  have HM := Lib.hid hM
  clear hM
  obtain ⟨i0, hi0, hz0, hz1, hz2⟩ := info_parts (show (Try.prog.info? 3).map (fun i => (i.zero, i.size, i.bytes)) = some (some (Value.int IntKind.i64 0), 1, 8) by kernel_rfl)
  obtain ⟨i1, hi1, hy0, hy1, hy2⟩ := info_parts (show (Try.prog.info? 29).map (fun i => (i.zero, i.size, i.bytes)) = some (some (Value.slice none 0 0), 1, 24) by kernel_rfl)
  go_enter Try.func35, Try.ntmps35
  go_wp2_with fail
  have S0 : Hid (RGw w.heap.size w R 0 (fun _ => 0) (fun _ => 0) (fun l i => Z i l) (.slice none 0 0) ∧ Below w.heap.size w w) := ⟨RGw.nil _ _ _ _, Below.refl _ _⟩
  go_loopg [4, 3] n (fun g s4 s3 wx => ∃ k : Nat, s4 = .int .i64 k ∧ g = n - k ∧ k ≤ n ∧ ∃ G C, Hid (RGw w.heap.size wx R k G C (fun l i => Z i l) s3 ∧ Below w.heap.size w wx))
  case atStart => exact ⟨0, rfl, rfl, Nat.zero_le _, _, _, S0⟩
  case round =>
    clear S0
    obtain ⟨k, rfl, rfl, hk, G, C, S⟩ := hrel
    rename World => W1
    have p0 := (HM.out.on S.out.2).top 0 hR0
    rw [Nat.add_zero] at p0
    by_cases hlt : k < n
    · have wk : IntKind.i64.wrap ((k : Int) + 1) = ((k + 1 : Nat) : Int) := by rw [IntWalk.i64_in _ (by omega)]; omega
      obtain ⟨pa, pc, hpv⟩ := own_form S.out.1.own
      subst hpv
      go_wp2_with fail
      clear p0
      have S1 : Hid (W1.ownsRow W1.heap.size 3 1 (.slice none 0 0) 0 ((List.range 0).map fun j => Value.int .i64 (Z j k)) ∧ Below W1.heap.size W1 W1) := ⟨World.ownsRow_nil _ _ _ _, Below.refl _ _⟩
      go_loopg [6, 5] R (fun g s6 s5 wx => ∃ i : Nat, s6 = .int .i64 i ∧ g = R - i ∧ i ≤ R ∧ Hid (wx.ownsRow W1.heap.size 3 1 s5 i ((List.range i).map fun j => Value.int .i64 (Z j k)) ∧ Below W1.heap.size W1 wx))
      case atStart => exact ⟨0, rfl, rfl, Nat.zero_le _, S1⟩
      case round =>
        clear S1
        obtain ⟨i, rfl, rfl, hi, T⟩ := hrel
        rename World => W2
        by_cases hlti : i < R
        · have wki : IntKind.i64.wrap ((i : Int) + 1) = ((i + 1 : Nat) : Int) := by rw [IntWalk.i64_in _ (by omega)]; omega
          obtain ⟨va, vc, hvv⟩ := own_form T.out.1
          subst hvv
          have M2 := HM.out.on (below_on S.out.2 T.out.2)
          have p1 := M2.top i hlti
          have p2 := M2.cell i k hlti hlt
          have O : Hid ((W2.alloc (Obj.cells #[.int .i64 (Z i k)] 3)).ownsRow W1.heap.size 3 1 (.slice va i vc) i ((List.range i).map fun j => Value.int .i64 (Z j k))) := own_only T.out.1 (Only.of_below (S := fun _ => False) ((Below.refl _ _).alloc (Nat.le_refl _) _)) (fun _ _ q => q)
          have BA : Hid (Below W2.heap.size W2 (W2.alloc (Obj.cells #[.int .i64 (Z i k)] 3))) := (Below.refl _ _).alloc (Nat.le_refl _) _
          have NW : Hid (∀ j u, [Value.int .i64 (Z i k)][j]? = some u → (W2.alloc (Obj.cells #[.int .i64 (Z i k)] 3)).cell? ((⟨W2.heap.size, 0, none⟩ : Addr).add j) = some u) := one_news (by simp [go_sem])
          have hle : W1.heap.size ≤ (W2.alloc (Obj.cells #[.int .i64 (Z i k)] 3)).heap.size := Nat.le_trans T.out.2.size BA.out.size
          clear M2
          go_wp2_with (at_builtin; refine wpList_append_own _ rfl _ _ 29 rfl W1.heap.size 3 i0 (.int .i64 0) 1 8 Try.underlying29 hi0 hz0 hz1 hz2 rfl (by decide) _ _ _ rfl O.out ⟨W2.heap.size, 0, none⟩ 1 1 [.int .i64 (Z i k)] rfl rfl NW.out (by intro u hu; simp at hu; subst hu; rfl) (by unfold maxLen; omega) (by omega) hle ?_; intro v2 w10 hown hgrow _)
          have T2 : Hid (w10.ownsRow W1.heap.size 3 1 v2 (i + 1) ((List.range (i + 1)).map fun j => Value.int .i64 (Z j k)) ∧ Below W1.heap.size W1 w10) := ⟨by rw [intsC_succ i (fun j => Z j k)]; exact hown, below_grown (below_on T.out.2 BA.out) O.out hgrow⟩
          clear p1 p2 hown hgrow O NW BA hle T
          go_roundg (R - (i + 1))
          case measure => omega
          case rel => exact ⟨i + 1, rfl, rfl, by omega, T2⟩
        · have e : i = R := by omega
          subst e
          obtain ⟨g, cp, hgv, hN⟩ := own_nrow T.out.1 hR0
          subst hgv
          have HN := Lib.hid hN
          have HK := Lib.hid T.out.2
          have hlo := S.out.2.size
          clear hN T
          have OA : Hid ((W2.alloc (Obj.cells #[.slice (some ⟨g, 0, none⟩) i cp] 29)).ownsRow w.heap.size 29 1 (.slice pa k pc) k ((List.range k).map fun l => Value.slice (some ⟨G l, 0, none⟩) i (C l))) := ((S.out.1.on HK.out).on ((Below.refl _ _).alloc (Nat.le_refl _) _)).own
          have NA : Hid (∀ j u, [Value.slice (some ⟨g, 0, none⟩) i cp][j]? = some u → (W2.alloc (Obj.cells #[.slice (some ⟨g, 0, none⟩) i cp] 29)).cell? ((⟨W2.heap.size, 0, none⟩ : Addr).add j) = some u) := one_news (by simp [go_sem])
          have BA : Hid (Below W2.heap.size W2 (W2.alloc (Obj.cells #[.slice (some ⟨g, 0, none⟩) i cp] 29))) := (Below.refl _ _).alloc (Nat.le_refl _) _
          have hle : w.heap.size ≤ (W2.alloc (Obj.cells #[.slice (some ⟨g, 0, none⟩) i cp] 29)).heap.size := Nat.le_trans (Nat.le_trans hlo HK.out.size) BA.out.size
          go_wp2_with (at_builtin; refine wpList_append_lies _ rfl _ _ 23 rfl w.heap.size 29 i1 (.slice none 0 0) 1 24 Try.underlying23 hi1 hy0 hy1 hy2 rfl (by decide) _ _ _ rfl OA.out ⟨W2.heap.size, 0, none⟩ 1 1 [.slice (some ⟨g, 0, none⟩) i cp] rfl rfl NA.out (by intro u hu; simp at hu; subst hu; rfl) (by omega) (by unfold maxLen; omega) (by omega) hle _ rfl ?_; intro q cap W3 hown hgrow hat _)
          have T3 : Hid (RGw w.heap.size W3 i (k + 1) (updN G k g) (updN C k cp) (fun l i => Z i l) (.slice (some ⟨q, 0, none⟩) (k + 1) cap) ∧ Below w.heap.size w W3) :=
            ⟨((S.out.1.on HK.out).on BA.out).push ((HN.out.on BA.out).mono hlo) (fun l hl e => by have := (S.out.1.row l hl).2.1; have := HN.out.lo; omega) (fun e => by have := (S.out.1.own.lt g e).2; have := HN.out.lo; omega) hown hgrow hat,
              below_grown (below_on (below_on S.out.2 HK.out) BA.out) OA.out hgrow⟩
          clear hown hgrow hat OA NA BA HN HK S hlo hle
          go_wp2_with fail
          go_roundg (n - (k + 1))
          case measure => omega
          case rel => exact ⟨k + 1, rfl, rfl, by omega, _, _, T3⟩
    · have e : k = n := by omega
      subst e
      obtain ⟨b, Cb, hv, hcb, hG⟩ := S.out.1.grid hn0
      subst hv
      have HG := Lib.hid hG
      have HB := Lib.hid S.out.2
      clear S hG
      go_wp2_with fail
      go_ret
      exact ⟨b, Cb, G, C, rfl, hcb, HB.out, HG.out⟩

end Go.Proofs.Ytjggnmbdgagkoaa
