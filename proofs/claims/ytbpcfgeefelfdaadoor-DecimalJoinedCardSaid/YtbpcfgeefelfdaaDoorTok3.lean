/- The walk of Tokens. -/
import Derived.Test.YtbpcfgeefelfdaaDoorTokParts
import Derived.Test.YtbpcfgeefelfdaaDoorMath2
import Derived.Deep.RegionHeld3
import Derived.Deep.AppendLies
namespace Go.Proofs.YtbpcfgeefelfdaaDoor
open Go.RowKit

def strSz : Value → Nat
  | .string t => t.size
  | _ => 0

theorem tokInfo : (Tryd.prog.info? 30).map (fun i => (i.zero, i.size, i.bytes)) = some (some (.agg #[.int .i64 0, .string ⟨#[]⟩, .int .i64 0, .int .i64 0]), 4, 40) := by kernel_rfl

/-- What Tokens comes to: the list in memory, or the place of the error. -/
def TokOut (r : Toks) (B : Nat) (e : Ending) (w' : World) : Prop :=
  match r with
  | .all ts => ∃ v, e = .returned (.tuple #[v, .agg #[.int .i64 0, .int .i64 0], .int .i64 0]) ∧ w'.ownsRow (B + 2) 30 4 v ts.length (accCells ts)
  | .bad line col => e = .returned (.tuple #[.slice none 0 0, .agg #[.int .i64 line, .int .i64 col], .int .i64 7])

set_option maxHeartbeats 1000000 in
theorem Tokens_any (s : ByteArray) (w : World) (hs : s.size ≤ 262144) :
    Calls Tryd.prog 5 #[.string s] w fun e w' => TokOut (tokGo s.size [] 1 1 s.data.toList) w.heap.size e w' ∧ Below w.heap.size w w' := by
  have hsm : ¬ (262144 : Int) < (s.size : Int) := by omega
  obtain ⟨i0, hi, hz0, hz1, hz2⟩ := info_parts tokInfo
  obtain ⟨B, hB⟩ : ∃ B, B = w.heap.size := ⟨_, rfl⟩
  go_enter Tryd.func5, Tryd.ntmps5
  go_wp2
  go_loopw [0, 5] (fun u0 u5 wr => ∃ (t : ByteArray) (acc : List Tok) (line col : Nat), u0 = .string t ∧ TokRel s w.heap.size w wr t u5 acc line col) (fun u0 _ _ => strSz u0)
  case atStart =>
    exact ⟨s, [], 1, 1, rfl, ⟨World.ownsRow_nil _ _ _ _, heap_alloc2_old _ _ _, heap_alloc2_new _ _ _, (((Below.refl _ _).alloc (Nat.le_refl _) _).alloc (by simp) _), by simp, by omega, by omega, rfl⟩⟩
  case round =>
    obtain ⟨t, acc, line, col, rfl, R⟩ := hrel
    have hc0 : wr.cell? ⟨w.heap.size + 1, 0, none⟩ = some (.int .i64 line) := R.pos.cell 0
    have hc1 : wr.cell? ⟨w.heap.size + 1, 1, none⟩ = some (.int .i64 col) := R.pos.cell 1
    have hf0 : wr.frozen? ⟨w.heap.size + 1, 0, none⟩ = false := R.pos.free 0
    have hf1 : wr.frozen? ⟨w.heap.size + 1, 1, none⟩ = false := R.pos.free 1
    have hr0 : wr.cell? ⟨w.heap.size, 0, none⟩ = some (.int .i64 0) := R.res.cell 0
    have hr1 : wr.cell? ⟨w.heap.size, 1, none⟩ = some (.int .i64 0) := R.res.cell 1
    have hg0 : wr.frozen? ⟨w.heap.size, 0, none⟩ = false := R.res.free 0
    have hg1 : wr.frozen? ⟨w.heap.size, 1, none⟩ = false := R.res.free 1
    by_cases h0 : t.data.toList = []
    · have he := empty_yes h0
      have hlen := R.len
      have hbs : w.heap.size + 1 < wr.heap.size := R.pos.lt
      have R' := Lib.hid R
      have H0 := Lib.hid h0
      have hown := R.own
      clear h0 R
      clear hB
      go_wp2_with (at_builtin; go_loud (refine wpList_append_own _ rfl (.tmp 58) (.tmp 61) 23 rfl (w.heap.size + 2) 30 i0 _ 4 40 Tryd.underlying23 hi hz0 hz1 hz2 rfl (by decide) _ _ _ rfl (hown.alloc _) ⟨wr.heap.size, 0, none⟩ 1 1 (tokCells ⟨5, [], line, col⟩) rfl rfl (four_new wr _ _ _ _ _) (tok_one _) (by unfold maxLen; omega) (by omega) (by simp; omega) ?_))
      intro v' w1 hown1 hgrow _
      have hres1 : Has w1 w.heap.size 25 _ := (R'.out.res.alloc _).grown hgrow (own_ne hown (by omega))
      have hb1 : Below w.heap.size w w1 := below_grown R'.out.bel (by omega) hgrow (own_ge hown (by omega))
      have ha0 : w1.cell? ⟨w.heap.size, 0, none⟩ = some (.int .i64 0) := hres1.cell 0
      have ha1 : w1.cell? ⟨w.heap.size, 1, none⟩ = some (.int .i64 0) := hres1.cell 1
      have hb0 : w1.frozen? ⟨w.heap.size, 0, none⟩ = false := hres1.free 0
      have hb1' : w1.frozen? ⟨w.heap.size, 1, none⟩ = false := hres1.free 1
      have Hown1 := Lib.hid hown1
      have Hres1 := Lib.hid hres1
      have Hgrow := Lib.hid hgrow
      have Hb1 := Lib.hid hb1
      clear hown1 hres1 hgrow hb1 hown hc0 hc1 hf0 hf1 hr0 hr1 hg0 hg1
      go_wp2
      refine bodyPost_ret (v := .tuple #[v', .agg #[.int .i64 0, .int .i64 0], .int .i64 0]) (by simp [results, Tryd.results5, go_sem, ha0, ha1]) rfl ⟨?_, ?_⟩
      · have hgo := R'.out.go
        rw [← hgo]
        have ht : t.size = 0 := str_nil H0.out
        rw [ht, H0.out]
        show TokOut (Toks.all _) _ _ _
        refine ⟨v', rfl, ?_⟩
        rw [accCells_snoc, List.length_append]
        exact ownsRow_setCell_other (ownsRow_setCell_other Hown1.out (own_ne Hown1.out (by simp)).symm _) (own_ne Hown1.out (by simp)).symm _
      · exact (Hb1.out.setCell (by simp) _).setCell (by simp) _
    · have he := empty_no h0
      have hpos : 0 < t.size := size_pos h0
      have hlen := R.len
      have hlin := R.lin
      have hclm := R.clm
      have hbs : w.heap.size + 1 < wr.heap.size := R.pos.lt
      have R' := Lib.hid R
      have hown := R.own
      have hstep := tok_step t.data.toList h0 acc line col
      have hbd := first_bd t.data.toList h0
      have htl : t.data.toList.length = t.size := by simp
      rw [htl] at hstep hbd
      generalize hF : firstS t.data.toList = F at *
      obtain ⟨k, n⟩ := F
      simp only at hstep hbd
      have HF := Lib.hid hF
      have Hstep := Lib.hid hstep
      clear h0 R hB hF htl hstep
      by_cases hk1 : k = -1
      · have Hk1 := Lib.hid hk1
        have hk1b : (k == -1) = true := beq_iff_eq.2 hk1
        clear hk1 hbd
        go_wp2_with (go_at_call 14; refine ((first_any _ _ (by unfold maxLen; omega) hpos).mono ?_); rintro e w' ⟨rfl, rfl⟩; rw [HF.out])
        go_region
        go_wp2
        refine bodyPost_ret (v := .tuple #[.slice none 0 0, .agg #[.int .i64 line, .int .i64 col], .int .i64 7]) (by simp [results, Tryd.results5, go_sem, hr0, hr1]) rfl ⟨?_, ?_⟩
        · rw [← R'.out.go, Hstep.out, if_pos Hk1.out]
          rfl
        · exact (((R'.out.bel).setCell (by simp) _).setCell (by simp) _).drew
      · have hbd2 := hbd hk1
        have hn1 := hbd2.1
        have hn2 := hbd2.2
        have Hk1 := Lib.hid hk1
        have hk1b : (k == -1) = false := beq_eq_false_iff_ne.2 hk1
        clear hk1 hbd hbd2
        by_cases hk0 : k = 0
        · have Hk0 := Lib.hid hk0
          have hk0b : (k == 0) = true := beq_iff_eq.2 hk0
          have hk4b : (k == 4) = false := beq_eq_false_iff_ne.2 (by omega)
          clear hk0
          go_wp2_with (go_at_call 14; refine ((first_any _ _ (by unfold maxLen; omega) hpos).mono ?_); rintro e w' ⟨rfl, rfl⟩; rw [HF.out])
          go_roundw
          case rel =>
            have hs0 := Hstep.out
            rw [if_neg Hk1.out, if_pos Hk0.out] at hs0
            exact ⟨t.extract n t.size, acc, line, col + n, rfl, rel_blank R'.out hn1 hn2 hs0⟩
          case measure => show (t.extract n t.size).size < t.size; rw [ext_size]; omega
        · have Hk0 := Lib.hid hk0
          have hk0b : (k == 0) = false := beq_eq_false_iff_ne.2 hk0
          clear hk0
          by_cases hk4 : k = 4
          · have Hk4 := Lib.hid hk4
            have hk4b : (k == 4) = true := beq_iff_eq.2 hk4
            clear hk4
            go_wp2_with (first
              | (go_at_call 14; refine ((first_any _ _ (by unfold maxLen; omega) hpos).mono ?_); rintro e w' ⟨rfl, rfl⟩; rw [HF.out])
              | (at_builtin; refine wpList_append_own _ rfl (.tmp 38) (.tmp 42) 23 rfl (w.heap.size + 2) 30 i0 _ 4 40 Tryd.underlying23 hi hz0 hz1 hz2 rfl (by decide) _ _ _ rfl (hown.alloc _) ⟨wr.heap.size, 0, none⟩ 1 1 (tokCells ⟨k, [], line, col⟩) rfl rfl (four_new wr _ _ _ _ _) (tok_one _) (by unfold maxLen; omega) (by omega) (by simp; omega) ?_))
            intro v' w1 hown1 hgrow _
            have hres1 := Lib.hid ((R'.out.res.alloc _).grown hgrow (own_ne hown (by omega)))
            have hpos1 := Lib.hid ((R'.out.pos.alloc _).grown hgrow (own_ne hown (by omega)))
            have hb1 := Lib.hid (below_grown R'.out.bel (by omega) hgrow (own_ge hown (by omega)))
            have hp0 : w1.cell? ⟨w.heap.size + 1, 0, none⟩ = some (.int .i64 line) := hpos1.out.cell 0
            have hp1 : w1.cell? ⟨w.heap.size + 1, 1, none⟩ = some (.int .i64 col) := hpos1.out.cell 1
            have hq0 : w1.frozen? ⟨w.heap.size + 1, 0, none⟩ = false := hpos1.out.free 0
            have hq1 : w1.frozen? ⟨w.heap.size + 1, 1, none⟩ = false := hpos1.out.free 1
            have Hown1 := Lib.hid hown1
            clear hown1 hgrow hown hc0 hc1 hf0 hf1 hr0 hr1 hg0 hg1
            go_wp2
            go_roundw
            case rel =>
              have hs0 := Hstep.out
              rw [if_neg Hk1.out, if_neg Hk0.out, if_pos Hk4.out] at hs0
              have h4 := Hk4.out
              subst h4
              exact ⟨t.extract n t.size, _, line + 1, 1, rfl, rel_line ⟨4, [], line, col⟩ R'.out hn1 hn2 Hown1.out hres1.out hpos1.out hb1.out _ hs0⟩
            case measure => show (t.extract n t.size).size < t.size; rw [ext_size]; omega
          · have Hk4 := Lib.hid hk4
            have hk4b : (k == 4) = false := beq_eq_false_iff_ne.2 hk4
            clear hk4
            go_wp2_with (go_at_call 14; refine ((first_any _ _ (by unfold maxLen; omega) hpos).mono ?_); rintro e w' ⟨rfl, rfl⟩; rw [HF.out])
            go_region_held3 (fun w' => w'.cell? ⟨w.heap.size + 1, 0, none⟩ = some (.int .i64 line) ∧ w'.cell? ⟨w.heap.size + 1, 1, none⟩ = some (.int .i64 col))
              (first
                | go_keep
                | (go_split_ands
                   refine ⟨?_, ?_⟩
                   · (rw [hgrow.cell_far _ (by simp; omega) (own_ne hown (by simp))]; assumption)
                   · (rw [hgrow.cell_far _ (by simp; omega) (own_ne hown (by simp))]; assumption)))
              ((refine step_append_lies _ (by rfl) (.tmp 22) (.tmp 29) _ (by rfl) (w.heap.size + 2) 30 i0 _ 4 40 Tryd.underlying23 hi hz0 hz1 hz2 rfl (by omega) u5 acc.length _ (by rfl) ((hown.alloc _).drew)
                  ⟨wr.heap.size, 0, none⟩ 1 1 [.int .i64 k, .string (t.extract 0 n), .int .i64 line, .int .i64 col] (by rfl) (by rfl) (four_new wr _ _ _ _ _) (by simp [Value.oneCell'])
                  (by omega) (by unfold maxLen; omega) (by omega) (by simp; omega) (wr.heap.size + 1) (by simp) ?_; intro gg cap w1 hown1 hgrow hat hlt))
            have hgrow' := grown_undrew hgrow
            have hres1 := Lib.hid ((R'.out.res.alloc _).grown hgrow' (own_ne hown (by omega)))
            have hpos1 := Lib.hid ((R'.out.pos.alloc _).grown hgrow' (own_ne hown (by omega)))
            have hb1 := Lib.hid (below_grown R'.out.bel (by omega) hgrow' (own_ge hown (by omega)))
            have hp0 : w1.cell? ⟨w.heap.size + 1, 0, none⟩ = some (.int .i64 line) := hpos1.out.cell 0
            have hp1 : w1.cell? ⟨w.heap.size + 1, 1, none⟩ = some (.int .i64 col) := hpos1.out.cell 1
            have hq0 : w1.frozen? ⟨w.heap.size + 1, 0, none⟩ = false := hpos1.out.free 0
            have hq1 : w1.frozen? ⟨w.heap.size + 1, 1, none⟩ = false := hpos1.out.free 1
            rw [← tok_text] at hown1
            have Hown1 := Lib.hid hown1
            clear hown1 hgrow hgrow' hown hc0 hc1 hf0 hf1 hr0 hr1 hg0 hg1 hat hlt
            go_wp2
            go_roundw
            case rel =>
              have hs0 := Hstep.out
              rw [if_neg Hk1.out, if_neg Hk0.out, if_neg Hk4.out] at hs0
              exact ⟨t.extract n t.size, _, line, col + n, rfl, rel_tok ⟨k, t.data.toList.take n, line, col⟩ R'.out hn1 hn2 Hown1.out hres1.out hpos1.out hb1.out hs0⟩
            case measure => show (t.extract n t.size).size < t.size; rw [ext_size]; omega

set_option maxHeartbeats 400000 in
theorem Tokens_long (s : ByteArray) (w : World) (hs : 262144 < s.size) :
    Calls Tryd.prog 5 #[.string s] w fun e w' => e = .returned (.tuple #[.slice none 0 0, .agg #[.int .i64 0, .int .i64 0], .int .i64 4]) ∧ Below w.heap.size w w' := by
  have hsm : (262144 : Int) < (s.size : Int) := by omega
  go_enter Tryd.func5, Tryd.ntmps5
  go_wp2
  refine bodyPost_ret (v := .tuple #[.slice none 0 0, .agg #[.int .i64 0, .int .i64 0], .int .i64 4]) (by simp [results, Tryd.results5, go_sem]) rfl ⟨rfl, ?_⟩
  exact (Below.refl _ _).alloc (Nat.le_refl _) _

end Go.Proofs.YtbpcfgeefelfdaaDoor
