/- The walk of the reference's Tokens. -/
import Derived.Test.YtbpcfgeefelfdaaRefTok2
import Derived.Test.YtbpcfgeefelfdaaTokParts
import Derived.Deep.RegionHeld3
import Derived.Deep.AppendLies
namespace Go.Proofs.Ytbpcfgeefelfdaa
open Go.RowKit

theorem rtokInfo : (Try.prog.info? 45).map (fun i => (i.zero, i.size, i.bytes)) = some (some (.agg #[.int .i64 0, .string ⟨#[]⟩, .int .i64 0, .int .i64 0]), 4, 40) := by kernel_rfl

/-- What Tokens comes to: the list in memory, or the place of the error. -/
def RTokOut (r : Toks) (B : Nat) (e : Ending) (w' : World) : Prop :=
  match r with
  | .all ts => ∃ v, e = .returned (.tuple #[v, .agg #[.int .i64 0, .int .i64 0], .int .i64 0]) ∧ w'.ownsRow (B + 1) 45 4 v ts.length (accCells ts)
  | .bad line col => e = .returned (.tuple #[.slice none 0 0, .agg #[.int .i64 line, .int .i64 col], .int .i64 7])

theorem first_kind : ∀ l, -1 ≤ (firstS l).1
  | [] => by simp [firstS]
  | c :: r => by
    simp only [firstS]
    repeat (first | omega | split)

theorem four_at (w : World) (a b c d : Value) (t : TypeId) (n : Nat) (hn : n = w.heap.size) : ∀ j u, [a, b, c, d][j]? = some u → (w.alloc (.cells #[a, b, c, d] t)).cell? ((⟨n, 0, none⟩ : Addr).add j) = some u := by
  subst hn; exact four_new w a b c d t

structure RefRel (s : ByteArray) (B : Nat) (w wr : World) (v : Value) (acc : List Tok) (line start i : Nat) : Prop where
  own : wr.ownsRow (B + 1) 45 4 v acc.length (accCells acc)
  res : Has wr B 38 #[.int .i64 0, .int .i64 0]
  bel : Below B w wr
  le : i ≤ s.size
  len : acc.length ≤ i
  lin : line ≤ 1 + i
  st : start ≤ i
  go : tokGo (s.size - i) acc line (i - start + 1) (s.data.toList.drop i) = tokGo s.size [] 1 1 s.data.toList

theorem RefRel.drewN {s : ByteArray} {B : Nat} {w wr : World} {v : Value} {acc : List Tok} {line start i : Nat} (R : RefRel s B w wr v acc line start i) (k : Nat) : RefRel s B w (wr.drewN k) v acc line start i :=
  ⟨R.own, R.res, below_drewN R.bel k, R.le, R.len, R.lin, R.st, R.go⟩

/-- One step of the tokens, in the words of the index. -/
theorem ref_step {s : ByteArray} {acc acc' : List Tok} {line col line' col' i m : Nat}
    (h : tokGo (s.size - i) acc line col (s.data.toList.drop i) = tokGo s.size [] 1 1 s.data.toList) (n : Nat) (hm : m = i + n)
    (hs : tokGo (s.data.toList.drop i).length acc line col (s.data.toList.drop i) = tokGo ((s.data.toList.drop i).drop n).length acc' line' col' ((s.data.toList.drop i).drop n)) :
    tokGo (s.size - m) acc' line' col' (s.data.toList.drop m) = tokGo s.size [] 1 1 s.data.toList := by
  have hl : (s.data.toList.drop i).length = s.size - i := by simp
  have hl2 : (s.data.toList.drop (i + n)).length = s.size - m := by simp; omega
  rw [hl, List.drop_drop, hl2] at hs
  rw [← h, hs, hm]

theorem ref_mk {s : ByteArray} {B : Nat} {w w2 w1 : World} {v v' : Value} {acc acc' : List Tok} {line start i line' start' n m : Nat} (R : RefRel s B w w2 v acc line start i)
    (own1 : w1.ownsRow (B + 1) 45 4 v' acc'.length (accCells acc')) (res1 : Has w1 B 38 #[.int .i64 0, .int .i64 0]) (bel1 : Below B w w1)
    (hm : m = i + n) (h1 : 1 ≤ n) (hms : m ≤ s.size) (hl : acc'.length ≤ acc.length + 1) (hl2 : line' ≤ line + 1) (hs : start' ≤ m)
    (h : tokGo (s.data.toList.drop i).length acc line (i - start + 1) (s.data.toList.drop i) = tokGo ((s.data.toList.drop i).drop n).length acc' line' (m - start' + 1) ((s.data.toList.drop i).drop n)) :
    RefRel s B w w1 v' acc' line' start' m where
  own := own1
  res := res1
  bel := bel1
  le := hms
  len := by have := R.len; omega
  lin := by have := R.lin; omega
  st := hs
  go := ref_step R.go n hm h

theorem ref_text (k : Int) (s : ByteArray) (i n m line col : Nat) (hm : m = i + n) : tokCells ⟨k, (s.data.toList.drop i).take n, line, col⟩ = [.int .i64 k, .string (s.extract i m), .int .i64 line, .int .i64 col] := by
  have e : bytesOf ((s.data.toList.drop i).take n) = s.extract i m := by
    apply Go.WideShapes.bytes_inj
    rw [Lib.extract_data]
    simp [bytesOf]
    congr 1
    omega
  simp [tokCells, e]

theorem pos_facts {w : World} {g : Nat} {a b : Value} (h : Has w g 38 #[a, b]) : w.cell? ⟨g, 0, none⟩ = some a ∧ w.cell? ⟨g, 1, none⟩ = some b ∧ w.frozen? ⟨g, 0, none⟩ = false ∧ w.frozen? ⟨g, 1, none⟩ = false :=
  ⟨h.cell 0, h.cell 1, h.free 0, h.free 1⟩

set_option maxRecDepth 100000 in
set_option maxHeartbeats 8000000 in
theorem refTokens_any (s : ByteArray) (w : World) (hs : s.size ≤ 100000) :
    Calls Try.prog 19 #[.string s] w fun e w' => RTokOut (tokGo s.size [] 1 1 s.data.toList) w.heap.size e w' ∧ Below w.heap.size w w' := by
  have hsm : ¬ (262144 : Int) < (s.size : Int) := by omega
  obtain ⟨i0, hi, hz0, hz1, hz2⟩ := info_parts rtokInfo
  go_enter Try.func19, Try.ntmps19
  go_wp2
  go_loopw [5, 6, 7, 8] (fun u5 u6 u7 u8 wr => ∃ (acc : List Tok) (line start i : Nat), u6 = .int .i64 line ∧ u7 = .int .i64 start ∧ u8 = .int .i64 i ∧ RefRel s w.heap.size w wr u5 acc line start i) (fun _ _ _ u8 _ => s.size + 1 - (intOf u8).toNat)
  case atStart =>
    exact ⟨[], 1, 0, 0, rfl, rfl, rfl, ⟨World.ownsRow_nil _ _ _ _, heap_alloc_new _ _, (Below.refl _ _).alloc (Nat.le_refl _) _, by omega, by simp, by omega, by omega, by simp⟩⟩
  case round =>
    obtain ⟨acc, line, start, i, rfl, rfl, rfl, R⟩ := hrel
    by_cases hlt : i < s.size
    · have hlti : (i : Int) < (s.size : Int) := by omega
      have hst : (start : Int) ≤ (i : Int) := by have := R.st; omega
      have hlen := R.len
      have hlin := R.lin
      have R' := Lib.hid R
      have hne : s.data.toList.drop i ≠ [] := by rw [drop_cons' s i hlt]; simp
      have hk0 := first_kind (s.data.toList.drop i)
      have hbd := first_bd _ hne
      have hstep := tok_step _ hne acc line (i - start + 1)
      have hdl : (s.data.toList.drop i).length = s.size - i := by simp
      rw [hdl] at hbd
      generalize hF : firstS (s.data.toList.drop i) = F at *
      obtain ⟨k, n⟩ := F
      simp only at hbd hk0 hstep
      have HF := Lib.hid hF
      have Hstep := Lib.hid hstep
      have Hbd := Lib.hid hbd
      clear R hne hF hstep hbd hdl
      go_wp2_with fail
      refine (next_any s i _ (by omega) hlt).mono ?_
      rintro e w' ⟨m, rfl, hm, hms, kk, rfl⟩
      rw [HF.out]
      rw [HF.out] at hm
      have R2 := Lib.hid (R'.out.drewN kk)
      obtain ⟨w2, hw2⟩ : ∃ w2, w2 = wr.drewN kk := ⟨_, rfl⟩
      rw [← hw2] at R2
      rw [← hw2]
      clear R' hw2
      have Hm := Lib.hid hm
      clear hm
      have hbs : w.heap.size < w2.heap.size := R2.out.res.lt
      obtain ⟨hr0, hr1, hg0, hg1⟩ := pos_facts R2.out.res
      have hown := R2.out.own
      have hcol : Hid (((i - start + 1 : Nat) : Int) = (i : Int) - (start : Int) + 1) := Lib.hid (by have := R2.out.st; omega)
      by_cases hk1 : k < 0
      · have Hk1 := Lib.hid (show k = -1 by omega)
        go_wp2
        go_region
        go_wp2
        refine bodyPost_ret (v := .tuple #[.slice none 0 0, .agg #[.int .i64 line, .int .i64 ((i : Int) - (start : Int) + 1)], .int .i64 7]) (by simp [results, Try.results19, go_sem, hr0, hr1, hbs]) rfl ⟨?_, ?_⟩
        · have h1 := Hstep.out
          rw [if_pos Hk1.out] at h1
          have hdl : (s.data.toList.drop i).length = s.size - i := by simp
          rw [hdl] at h1
          rw [← R2.out.go, h1]
          show Ending.returned _ = Ending.returned (.tuple #[.slice none 0 0, .agg #[.int .i64 line, .int .i64 ((i - start + 1 : Nat) : Int)], .int .i64 7])
          rw [hcol.out]
        · exact ((((R2.out.bel).setCell (by simp) _).setCell (by simp) _).alloc (by simp [World.setCell]; omega) _).drew
      · have hk1' : ¬ k < 0 := hk1
        have Hk1 := Lib.hid (show ¬ k = -1 by omega)
        have hbd := Hbd.out Hk1.out
        have hn1 := hbd.1
        have hn2 := hbd.2
        have hm := Hm.out Hk1.out
        have hmi : i + 1 ≤ m := by omega
        have hmi2 : (i : Int) ≤ (m : Int) := by omega
        have hms2 : (m : Int) ≤ (s.size : Int) := by omega
        have HM := Lib.hid hm
        clear hbd hm
        by_cases hk0 : k = 0
        · have Hk0 := Lib.hid hk0
          have hk4b : (k == 4) = false := beq_no (by omega)
          have hkp : ¬ 0 < k := by omega
          clear hk0
          go_wp2
          go_roundw
          case rel =>
            have hs0 := Hstep.out
            rw [if_neg Hk1.out, if_pos Hk0.out] at hs0
            exact ⟨acc, line, start, m, rfl, rfl, rfl, ref_mk R2.out (R2.out.own.alloc _) (R2.out.res.alloc _) (R2.out.bel.alloc (by omega) _) HM.out hn1 hms (by omega) (by omega) (by have := R2.out.st; omega) (by rw [hs0]; congr 1; have := HM.out; have := R2.out.st; omega)⟩
          case measure => simp [intOf]; omega
        · have Hk0 := Lib.hid hk0
          have hkp : 0 < k := by omega
          clear hk0
          by_cases hk4 : k = 4
          · have Hk4 := Lib.hid hk4
            have hk4b : (k == 4) = true := beq_yes hk4
            clear hk4
            go_wp2_with (at_builtin; refine wpList_append_own _ rfl (.tmp 37) (.tmp 41) 36 rfl (w.heap.size + 1) 45 i0 _ 4 40 Try.underlying36 hi hz0 hz1 hz2 rfl (by decide) _ _ _ rfl ((hown.alloc _).alloc _) ⟨w2.heap.size + 1, 0, none⟩ 1 1 [.int .i64 k, .string ⟨#[]⟩, .int .i64 line, .int .i64 ((i : Int) - (start : Int) + 1)] rfl rfl (four_at (w2.alloc _) _ _ _ _ _ _ (by simp)) (by simp [Value.oneCell']) (by unfold maxLen; omega) (by omega) (by simp; omega) ?_)
            intro v' w1 hown1 hgrow _
            have hres1 := Lib.hid (((R2.out.res.alloc _).alloc _).grown hgrow (own_ne hown (by omega)))
            have hb1 := Lib.hid (below_grown (R2.out.bel.alloc (by omega) _) (by simp; omega) hgrow (own_ge hown (by omega)))
            have Hown1 := Lib.hid hown1
            clear hown1 hgrow hown hr0 hr1 hg0 hg1
            go_wp2
            go_roundw
            case rel =>
              have hs0 := Hstep.out
              rw [if_neg Hk1.out, if_neg Hk0.out, if_pos Hk4.out] at hs0
              have h4 := Hk4.out
              subst h4
              exact ⟨acc ++ [⟨4, [], line, i - start + 1⟩], line + 1, m, m, by go_num, rfl, rfl, ref_mk R2.out (by rw [accCells_snoc, List.length_append]; have := Hown1.out; rw [← hcol.out] at this; exact this) hres1.out hb1.out HM.out hn1 hms (by simp) (by omega) (by omega) (by rw [hs0]; congr 1; omega)⟩
            case measure => simp [intOf]; omega
          · have Hk4 := Lib.hid hk4
            have hk4b : (k == 4) = false := beq_no hk4
            clear hk4
            go_wp2
            go_region_held3 (fun w' => w'.cell? ⟨w2.heap.size, 0, none⟩ = some (.int .i64 line) ∧ w'.cell? ⟨w2.heap.size, 1, none⟩ = some (.int .i64 ((i : Int) - (start : Int) + 1)))
              (first
                | go_keep
                | (go_split_ands
                   refine ⟨?_, ?_⟩
                   · (rw [hgrow.cell_far _ (by simp; omega) (fun e => by have := hown.lt _ e.symm; simp at this)]; assumption)
                   · (rw [hgrow.cell_far _ (by simp; omega) (fun e => by have := hown.lt _ e.symm; simp at this)]; assumption)))
              ((refine step_append_lies _ (by rfl) (.tmp 48) (.tmp 56) _ (by rfl) (w.heap.size + 1) 45 i0 _ 4 40 Try.underlying36 hi hz0 hz1 hz2 rfl (by omega) u5 acc.length _ (by rfl) (((hown.alloc _).alloc _).drew)
                  ⟨w2.heap.size + 1, 0, none⟩ 1 1 [.int .i64 k, .string (s.extract i m), .int .i64 line, .int .i64 ((i : Int) - (start : Int) + 1)] (by rfl) (by rfl) (four_at (w2.alloc _) _ _ _ _ _ _ (by simp)) (by simp [Value.oneCell'])
                  (by omega) (by unfold maxLen; omega) (by omega) (by simp; omega) (w2.heap.size + 2) (by simp) ?_; intro gg cap w1 hown1 hgrow hat hlt))
            have hgrow' := grown_undrew hgrow
            have hres1 := Lib.hid (((R2.out.res.alloc _).alloc _).grown hgrow' (own_ne hown (by omega)))
            have hb1 := Lib.hid (below_grown (R2.out.bel.alloc (by omega) _) (by simp; omega) hgrow' (own_ge hown (by omega)))
            rw [← hcol.out, ← ref_text k s i n m line (i - start + 1) HM.out] at hown1
            have Hown1 := Lib.hid hown1
            clear hown1 hgrow hgrow' hown hr0 hr1 hg0 hg1 hat hlt
            go_wp2
            go_roundw
            case rel =>
              have hs0 := Hstep.out
              rw [if_neg Hk1.out, if_neg Hk0.out, if_neg Hk4.out] at hs0
              exact ⟨acc ++ [⟨k, (s.data.toList.drop i).take n, line, i - start + 1⟩], line, start, m, rfl, rfl, rfl, ref_mk R2.out (by rw [accCells_snoc, List.length_append]; exact Hown1.out) hres1.out hb1.out HM.out hn1 hms (by simp) (by omega) (by have := R2.out.st; omega) (by rw [hs0]; congr 1; have := HM.out; have := R2.out.st; omega)⟩
            case measure => simp [intOf]; omega
    · have hlti : ¬ (i : Int) < (s.size : Int) := by omega
      have hie : i = s.size := by have := R.le; omega
      have hst : (start : Int) ≤ (s.size : Int) := by have := R.st; omega
      have hlen : acc.length ≤ s.size := by have := R.len; omega
      have hlin : line ≤ 1 + s.size := by have := R.lin; omega
      have hbs : w.heap.size < wr.heap.size := R.res.lt
      have R' := Lib.hid R
      have hown := R.own
      have hcol : Hid (((s.size - start + 1 : Nat) : Int) = (s.size : Int) - (start : Int) + 1) := Lib.hid (by omega)
      have Hie := Lib.hid hie
      clear R hie
      go_wp2_with (at_builtin; refine wpList_append_own _ rfl (.tmp 59) (.tmp 68) 36 rfl (w.heap.size + 1) 45 i0 _ 4 40 Try.underlying36 hi hz0 hz1 hz2 rfl (by decide) _ _ _ rfl (hown.alloc _) ⟨wr.heap.size, 0, none⟩ 1 1 [.int .i64 5, .string ⟨#[]⟩, .int .i64 line, .int .i64 ((s.size : Int) - (start : Int) + 1)] rfl rfl (four_at wr _ _ _ _ _ _ rfl) (by simp [Value.oneCell']) (by unfold maxLen; omega) (by omega) (by simp; omega) ?_)
      intro v' w1 hown1 hgrow _
      have hres1 := Lib.hid ((R'.out.res.alloc _).grown hgrow (own_ne hown (by omega)))
      have hb1 := Lib.hid (below_grown R'.out.bel (by omega) hgrow (own_ge hown (by omega)))
      obtain ⟨ha0, ha1, hf0, hf1⟩ := pos_facts hres1.out
      have Hown1 := Lib.hid hown1
      clear hown1 hgrow hown
      go_wp2
      refine bodyPost_ret (v := .tuple #[v', .agg #[.int .i64 0, .int .i64 0], .int .i64 0]) (by simp [results, Try.results19, go_sem, ha0, ha1]) rfl ⟨?_, ?_⟩
      · have hgo := R'.out.go
        rw [← hgo]
        have hd : s.data.toList.drop i = [] := List.drop_eq_nil_of_le (by rw [Hie.out]; simp)
        rw [hd]
        have ht : tokGo (s.size - i) acc line (i - start + 1) [] = Toks.all (acc ++ [⟨5, [], line, i - start + 1⟩]) := by
          cases (s.size - i) <;> rfl
        rw [ht]
        refine ⟨v', rfl, ?_⟩
        rw [accCells_snoc, List.length_append, Hie.out]
        have h1 := Hown1.out
        rw [← hcol.out] at h1
        exact ownsRow_setCell_other (ownsRow_setCell_other h1 (own_ne h1 (by simp)).symm _) (own_ne h1 (by simp)).symm _
      · exact (hb1.out.setCell (by simp) _).setCell (by simp) _

end Go.Proofs.Ytbpcfgeefelfdaa
