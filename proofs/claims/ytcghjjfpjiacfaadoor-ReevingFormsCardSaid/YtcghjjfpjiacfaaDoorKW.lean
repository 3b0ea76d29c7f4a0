/- Layer 10: what the chapter's example answers. -/
import Derived.Test.YtcghjjfpjiacfaaDoorKA
namespace Go.Proofs.YtcghjjfpjiacfaaDoor
open Go.ChangeShapes Go.WideShapes Go.ChangeAt Go.RowKit Go.Joins Go.Deep Go.Shelf
set_option linter.unusedVariables false

set_option maxRecDepth 100000 in
theorem ex_hold (k : Bool) (hk : ∀ i, i % 2 = 1 → k = true) : True := trivial
theorem ex_even (k : Bool) (e : Bool) : hldB k ⟨ByteArray.empty, 0, 1, 1⟩ e = true := by cases k <;> cases e <;> decide
theorem ex_odd : hldB true ⟨⟨#[98]⟩, 2, 1, 1⟩ false = true := by decide
theorem ex_kn {s : Sys} (h : IsEx s) : knB s.bn s.nb ⟨#[98]⟩ = true := knB_iff.2 ⟨0, by rw [h.nb]; omega, h.bn⟩
theorem ex_rop {s : Sys} (h : IsEx s) : RopOk (knB s.bn s.nb) (s.R 0) where
  l2 := by rw [h.n]; omega
  l10 := by rw [h.n]; omega
  hs i hi := by
    rw [h.n] at hi ⊢
    rw [h.hs]
    unfold exH
    by_cases q : i % 2 = 1
    · rw [if_pos q]
      show hldB (knB s.bn s.nb ⟨#[98]⟩) _ _ = true
      rw [ex_kn h, decide_eq_false (by omega)]
      exact ex_odd
    · rw [if_neg q]
      exact ex_even _ _
  hl _ := by rw [h.n, h.hs]; rfl
theorem ex_nm0 {s : Sys} (h : IsEx s) : s.nm 0 = ⟨#[98]⟩ := by rw [sys_nm_b s (by rw [h.nb]; omega), h.bn]
theorem ex_nm1 {s : Sys} (h : IsEx s) : s.nm 1 = ⟨#[114]⟩ := by have := sys_nm_r s 0; rw [h.nb] at this; rw [← h.rn]; exact this
theorem ex_ok {s : Sys} (h : IsEx s) : SysOk s where
  b1 := by rw [h.nb]; omega
  b6 := by rw [h.nb]; omega
  r1 := by rw [h.nr]; omega
  r6 := by rw [h.nr]; omega
  nam k hk := by
    rw [h.nb, h.nr] at hk
    have : k = 0 ∨ k = 1 := by omega
    rcases this with rfl | rfl
    · rw [ex_nm0 h]; decide
    · rw [ex_nm1 h]; decide
  dis k hk j hj := by
    rw [h.nb, h.nr] at hk
    obtain rfl : k = 1 := by omega
    obtain rfl : j = 0 := by omega
    rw [ex_nm0 h, ex_nm1 h]
    decide
  wt i hi := by
    rw [h.nb] at hi
    obtain rfl : i = 0 := by omega
    rw [h.bw]
    omega
  rop k hk := by
    rw [h.nr] at hk
    obtain rfl : k = 0 := by omega
    exact ex_rop h
  one := by
    rw [h.nr]
    show 0 + (if (s.R 0).hauled then 1 else 0) ≤ 1
    split <;> omega
theorem exH_sm (i : Nat) : (exH i).blk.size ≤ 60 := by unfold exH; split <;> decide
theorem exH_rg (i : Nat) : HldRg (exH i) := by
  unfold exH
  split <;> exact ⟨⟨by decide, by decide⟩, ⟨by decide, by decide⟩, ⟨by decide, by decide⟩⟩
theorem ex_sm {s : Sys} (h : IsEx s) : SysSm s where
  b := by rw [h.nb]; omega
  r := by rw [h.nr]; omega
  h k hk := by
    rw [h.nr] at hk
    obtain rfl : k = 0 := by omega
    rw [h.n]; omega
  bn i hi := by
    rw [h.nb] at hi
    obtain rfl : i = 0 := by omega
    rw [h.bn]; decide
  rn k hk := by
    rw [h.nr] at hk
    obtain rfl : k = 0 := by omega
    rw [h.rn]; decide
  hn k hk i _ := by
    rw [h.nr] at hk
    obtain rfl : k = 0 := by omega
    rw [h.hs]; exact exH_sm i
theorem ex_rg {s : Sys} (h : IsEx s) : SysRg s where
  w i hi := by
    rw [h.nb] at hi
    obtain rfl : i = 0 := by omega
    rw [h.bw]; exact ⟨by decide, by decide⟩
  h k hk i _ := by
    rw [h.nr] at hk
    obtain rfl : k = 0 := by omega
    rw [h.hs]; exact exH_rg i
  bc := by rw [h.nb, h.bc]; omega
  rc := by rw [h.nr, h.rc]; omega
  hc k hk := by
    rw [h.nr] at hk
    obtain rfl : k = 0 := by omega
    rw [h.n, h.hc]; omega
theorem ex_mtx {s : Sys} (h : IsEx s) : mtx s 0 0 = 4 := by
  unfold mtx
  rw [h.n]
  simp only [pul, h.hs, h.bn]
  decide
def exT : ByteArray := ⟨#[98, 108, 111, 99, 107, 32, 98, 32, 51, 48, 48, 10, 114, 111, 112, 101, 32, 114, 32, 104, 97, 117, 108, 101, 100, 32, 45, 32, 48, 32, 49, 32, 98, 32, 50, 32, 49, 32, 45, 32, 48, 32, 49, 32, 98, 32, 50, 32, 49, 32, 45, 32, 48, 32, 49, 10]⟩
set_option maxRecDepth 100000 in
theorem ex_lnR (ha : Option Addr) (hc : Nat) : lnT ((List.range (3 + 3 * 5)).map fun j => (wdF ⟨⟨#[114]⟩, ha, 5, hc, exH, true⟩ j).data.toList) = [114, 111, 112, 101, 32, 114, 32, 104, 97, 117, 108, 101, 100, 32, 45, 32, 48, 32, 49, 32, 98, 32, 50, 32, 49, 32, 45, 32, 48, 32, 49, 32, 98, 32, 50, 32, 49, 32, 45, 32, 48, 32, 49, 10] := by kernel_rfl
set_option maxRecDepth 100000 in
theorem ex_lnB : lnT [[98, 108, 111, 99, 107], [98], Lib.itoa 300] = [98, 108, 111, 99, 107, 32, 98, 32, 51, 48, 48, 10] := by kernel_rfl
theorem ex_txt {s : Sys} (h : IsEx s) : (⟨(txS s).toArray⟩ : ByteArray) = exT := by
  have e1 : lnB s 0 = [98, 108, 111, 99, 107, 32, 98, 32, 51, 48, 48, 10] := by
    rw [← ex_lnB]
    show lnT [sBlock.data.toList, (s.bn 0).data.toList, (bsS (Lib.itoa (s.bw 0))).data.toList] = _
    rw [h.bn, h.bw, bsS_list]
    rfl
  have e2 : lnR s 0 = [114, 111, 112, 101, 32, 114, 32, 104, 97, 117, 108, 101, 100, 32, 45, 32, 48, 32, 49, 32, 98, 32, 50, 32, 49, 32, 45, 32, 48, 32, 49, 32, 98, 32, 50, 32, 49, 32, 45, 32, 48, 32, 49, 10] := by
    rw [← ex_lnR (s.R 0).ha (s.R 0).hc]
    have e : s.R 0 = ⟨⟨#[114]⟩, (s.R 0).ha, 5, (s.R 0).hc, exH, true⟩ := by
      have h1 := h.rn
      have h2 := h.rh
      have h3 := h.n
      have h4 := h.hs
      generalize s.R 0 = r at *
      obtain ⟨a, b, c, d, e, f⟩ := r
      simp only at h1 h2 h3 h4
      subst h1; subst h2; subst h3; subst h4
      rfl
    unfold lnR
    rw [h.n]
    rw [← e]
  unfold txS
  rw [h.nr]
  show (⟨(tbF s s.nb ++ lnR s 0).toArray⟩ : ByteArray) = _
  rw [h.nb]
  show (⟨(([] ++ lnB s 0) ++ lnR s 0).toArray⟩ : ByteArray) = _
  rw [e1, e2]
  rfl
end Go.Proofs.YtcghjjfpjiacfaaDoor
