/- The examples of the chapter hold: awake returns true. -/
import Derived.Test.YtbpcfgeefelfdaaDoorTok3
import Derived.Test.YtbpcfgeefelfdaaDoorFormat
import Derived.Test.YtbpcfgeefelfdaaDoorParse3
import Derived.Test.YtbpcfgeefelfdaaDoorRound
namespace Go.Proofs.YtbpcfgeefelfdaaDoor
open Go.RowKit

theorem ends_1234 : Ends 1234 2 4 := ⟨by decide, by decide, fun d' h => by
  match d', h with
  | 0, _ => exact .inl (by decide)
  | 1, _ => exact .inl (by decide)
  | 2, _ => exact .inl (by decide)
  | 3, _ => exact .inr (by decide)⟩

theorem fmt_ex (w : World) : Calls Tryd.prog 11 #[.int .i64 (-1234), .int .i64 2] w fun e w' => e = .returned (.tuple #[.string ⟨#[45, 49, 50, 46, 51, 52]⟩, .int .i64 0]) ∧ Below w.heap.size w w' :=
  (Format_ok (-1234) 2 w (by omega) (by omega) (by omega)).mono fun e w' ⟨d, h, he, hb⟩ => by
    obtain rfl : d = 4 := ends_one h ends_1234
    exact ⟨he, hb⟩

theorem par_ex (w : World) : Calls Tryd.prog 12 #[.string ⟨#[49, 50, 46, 51]⟩, .int .i64 2] w fun e w' => e = .returned (.tuple #[.int .i64 1230, .int .i64 0]) ∧ Below w.heap.size w w' :=
  (Parse_ok ⟨#[49, 50, 46, 51]⟩ 2 w (by omega) (by decide)).mono fun e w' ⟨he, hb⟩ => by
    have hp : parseS (⟨#[49, 50, 46, 51]⟩ : ByteArray).data.toList 2 = (1230, 0) := by decide
    rw [hp] at he
    exact ⟨he, hb⟩

theorem rnd_ex (w : World) : Calls Tryd.prog 13 #[.int .i64 (-15), .int .i64 10] w fun e w' => e = .returned (.tuple #[.int .i64 (-1), .int .i64 0]) ∧ ∃ k, w' = w.drewN k :=
  (Round_ok (-15) 10 w (by omega) (by omega) (by omega) (by omega)).mono fun e w' ⟨he, hb⟩ => by
    have hp : rnd (-15) 10 = -1 := by decide
    rw [hp] at he
    exact ⟨he, hb⟩

def exS : ByteArray := ⟨#[115, 101, 116, 32, 103, 49, 32, 58, 61, 32, 48, 32, 35, 32, 111, 102, 102]⟩
def exT : List Tok := [⟨1, [115, 101, 116], 1, 1⟩, ⟨1, [103, 49], 1, 5⟩, ⟨3, [58, 61], 1, 8⟩, ⟨2, [48], 1, 11⟩, ⟨5, [], 1, 18⟩]

theorem tok_calc : tokGo exS.size [] 1 1 exS.data.toList = .all exT := by kernel_rfl

/-- What a caller of Tokens sees of the example: the five tokens in memory. -/
def ExOut (B : Nat) (e : Ending) (w' : World) : Prop :=
  ∃ g cap, e = .returned (.tuple #[.slice (some ⟨g, 0, none⟩) 5 cap, .agg #[.int .i64 0, .int .i64 0], .int .i64 0]) ∧ w'.ownsRow (B + 2) 30 4 (.slice (some ⟨g, 0, none⟩) 5 cap) 5 (accCells exT)

theorem tok_ex (w : World) : Calls Tryd.prog 5 #[.string ⟨#[115, 101, 116, 32, 103, 49, 32, 58, 61, 32, 48, 32, 35, 32, 111, 102, 102]⟩] w fun e w' => ExOut w.heap.size e w' ∧ Below w.heap.size w w' :=
  (Tokens_any exS w (by decide)).mono fun e w' ⟨ho, hb⟩ => by
    rw [tok_calc] at ho
    obtain ⟨v, he, hown⟩ := ho
    obtain ⟨g, cap, rfl, _, _⟩ := hown.form (by decide)
    exact ⟨⟨g, cap, he, hown⟩, hb⟩

set_option maxHeartbeats 1000000 in
theorem awake_any (w : World) : Calls Tryd.prog 4 #[] w fun e w' => e = .returned (.bool true) ∧ Below w.heap.size w w' := by
  go_enter Tryd.func4, Tryd.ntmps4
  go_wp2_with fail
  refine (fmt_ex _).mono ?_
  rintro e w1 ⟨rfl, hb1⟩
  have Hb1 := Lib.hid hb1
  clear hb1
  go_wp2_with fail
  refine (par_ex _).mono ?_
  rintro e w2 ⟨rfl, hb2⟩
  have Hb2 := Lib.hid (Hb1.out.trans (hb2.mono Hb1.out.size))
  clear hb2
  go_wp2_with fail
  refine (rnd_ex _).mono ?_
  rintro e w3 ⟨rfl, nk, rfl⟩
  have Hb3 := Lib.hid (below_drewN Hb2.out nk)
  go_wp2_with fail
  refine (tok_ex _).mono ?_
  rintro e w4 ⟨⟨g, cap, rfl, hown⟩, hb4⟩
  have Hb4 := Lib.hid (Hb3.out.trans (hb4.mono Hb3.out.size))
  have hgl : g < w4.heap.size := by
    obtain ⟨g', cap', hv, _, hlt⟩ := hown.form (by decide)
    injection hv with hv
    injection hv with hv
    injection hv with hv
    omega
  have hc : ∀ j u, (accCells exT)[j]? = some u → w4.cell? ((⟨g, 0, none⟩ : Addr).add j) = some u := hown.cells rfl
  have c9 : w4.cell? ⟨g, 9, none⟩ = some (.string ⟨#[58, 61]⟩) := hc 9 _ rfl
  have c18 : w4.cell? ⟨g, 18, none⟩ = some (.int .i64 1) := hc 18 _ rfl
  have c19 : w4.cell? ⟨g, 19, none⟩ = some (.int .i64 18) := hc 19 _ rfl
  clear hb4 hc hown
  go_wp2
  go_ret
  exact ⟨rfl, Hb4.out.alloc Hb4.out.size _⟩

end Go.Proofs.YtbpcfgeefelfdaaDoor
