/- Layer 7: the first subset with a sum. -/
import Derived.Test.YtjonhhmapbibaaaDoorUSums
namespace Go.Proofs.YtjonhhmapbibaaaDoor
open Go.ChangeShapes Go.WideShapes Go.ChangeAt Go.RowKit Go.Joins Go.Deep Go.Shelf
set_option linter.unusedVariables false

/-- How many indices a set has. -/
def sz (n s : Nat) : Nat := (ixs (bitI n s) n).length
theorem sz_le (n s : Nat) : sz n s ≤ n := by unfold sz ixs; exact Nat.le_trans (List.length_filter_le _ _) (by simp)
/-- The first one of the sets from least on, up to k. -/
structure FsI (n least : Nat) (F : Nat → Int) (sum : Int) (k b : Nat) (fd : Bool) : Prop where
  no : fd = false → b = 0 ∧ ∀ s, least ≤ s → s < k → F s ≠ sum
  yes : fd = true → least ≤ b ∧ b < k ∧ F b = sum ∧ ∀ s, least ≤ s → s < k → F s = sum → sz n b < sz n s ∨ sz n b = sz n s ∧ s ≤ b
theorem FsI.start (n least : Nat) (F : Nat → Int) (sum : Int) : FsI n least F sum least 0 false := ⟨fun _ => ⟨rfl, fun s h g => by omega⟩, fun h => by cases h⟩
theorem FsI.skip {n least k b : Nat} {F : Nat → Int} {sum : Int} {fd : Bool} (h : FsI n least F sum k b fd) (hn : F k ≠ sum) : FsI n least F sum (k + 1) b fd :=
  ⟨fun e => ⟨(h.no e).1, fun s h1 h2 => by
    by_cases q : s = k
    · rw [q]; exact hn
    · exact (h.no e).2 s h1 (by omega)⟩,
   fun e => ⟨(h.yes e).1, by have := (h.yes e).2.1; omega, (h.yes e).2.2.1, fun s h1 h2 h3 => by
    by_cases q : s = k
    · rw [q] at h3; exact absurd h3 hn
    · exact (h.yes e).2.2.2 s h1 (by omega) h3⟩⟩
theorem FsI.more {n least k b : Nat} {F : Nat → Int} {sum : Int} (h : FsI n least F sum k b true) (hn : ¬ sz n k ≤ sz n b) : FsI n least F sum (k + 1) b true :=
  ⟨fun e => (by cases e),
   fun e => ⟨(h.yes e).1, by have := (h.yes e).2.1; omega, (h.yes e).2.2.1, fun s h1 h2 h3 => by
    by_cases q : s = k
    · rw [q]; exact .inl (by omega)
    · exact (h.yes e).2.2.2 s h1 (by omega) h3⟩⟩
theorem FsI.take {n least k b : Nat} {F : Nat → Int} {sum : Int} {fd : Bool} (h : FsI n least F sum k b fd) (hl : least ≤ k) (he : F k = sum) (hc : fd = true → sz n k ≤ sz n b) : FsI n least F sum (k + 1) k true :=
  ⟨fun e => (by cases e),
   fun _ => ⟨hl, by omega, he, fun s h1 h2 h3 => by
    by_cases q : s = k
    · rw [q]; exact .inr ⟨rfl, Nat.le_refl _⟩
    · cases fd with
      | false => exact absurd h3 ((h.no rfl).2 s h1 (by omega))
      | true =>
        have a := hc rfl
        rcases (h.yes rfl).2.2.2 s h1 (by omega) h3 with z | ⟨z, _⟩
        · exact .inl (by omega)
        · rcases Nat.lt_or_ge (sz n k) (sz n s) with y | y
          · exact .inl y
          · exact .inr ⟨by omega, by omega⟩⟩⟩

set_option maxRecDepth 100000 in
set_option maxHeartbeats 8000000 in
theorem first_any (n lo g cp least : Nat) (F : Nat → Int) (sum : Int) (w : World) (hr : NRow lo (2 ^ n) w g cp F) (hn : n ≤ 11) (hl : least ≤ 2 ^ n) :
    Calls Tryd.prog 39 #[.slice (some ⟨g, 0, none⟩) (2 ^ n) cp, .int .i64 sum, .int .u64 (least : Int)] w fun e w' => w = w' ∧ ∃ (b : Nat) (fd : Bool), e = .returned (.tuple #[.int .u64 (b : Int), .bool fd]) ∧ FsI n least F sum (2 ^ n) b fd := by
  have hN : 2 ^ n ≤ 2048 := Nat.le_trans (Nat.pow_le_pow_right (by decide) hn) (by decide)
  have h0 := Nat.two_pow_pos n
  have CS := fun s (h : s < 2 ^ n) W => Lib.hid (size_any n s hn h W)
  have HR := Lib.hid hr
  generalize hM : 2 ^ n = M at *
  have k0 : IntKind.u64.wrap (M : Int) = (M : Int) := IntWalk.u64_in _ (by omega)
  have S0 : Hid (FsI n least F sum least 0 false) := FsI.start n least F sum
  clear hr
  go_enter Tryd.func39, Tryd.ntmps39
  go_wp2_with fail
  go_loopg [10, 8, 9] (M - least) (fun g' s10 s8 s9 wx => ∃ (s b : Nat) (fd : Bool), s10 = .int .u64 s ∧ s8 = .int .u64 b ∧ s9 = .bool fd ∧ g' = M - s ∧ least ≤ s ∧ s ≤ M ∧ wx = w ∧ Hid (FsI n least F sum s b fd))
  case atStart => exact ⟨least, 0, false, rfl, rfl, rfl, rfl, Nat.le_refl _, hl, rfl, S0⟩
  case round =>
    clear S0
    obtain ⟨s, b, fd, rfl, rfl, rfl, rfl, hs1, hs, rfl, S⟩ := hrel
    by_cases hlt : s < M
    · have k2 : IntKind.u64.wrap ((s : Int) + 1) = ((s + 1 : Nat) : Int) := by rw [IntWalk.u64_in _ (by omega)]; omega
      have p1 := HR.out.cell s hlt
      have CK := CS s hlt
      obtain ⟨x, hx⟩ : ∃ x, F s = x := ⟨_, rfl⟩
      rw [hx] at p1
      by_cases he : x = sum
      · have q1 : (x == sum) = true := by simpa using he
        cases fd with
        | false =>
          have T : Hid (FsI n least F sum (s + 1) s true) := S.out.take hs1 (hx.trans he) (fun h => by cases h)
          clear S he
          go_wp2_with fail
          go_roundg (M - (s + 1))
          case measure => omega
          case rel => exact ⟨s + 1, s, true, rfl, rfl, rfl, rfl, by omega, by omega, rfl, T⟩
        | true =>
          have hb := (S.out.yes rfl).2.1
          have CB := CS b (by omega)
          by_cases hc : sz n s ≤ sz n b
          · have T : Hid (FsI n least F sum (s + 1) s true) := S.out.take hs1 (hx.trans he) (fun _ => hc)
            unfold sz at hc
            have q2 : decide (((ixs (bitI n s) n).length : Int) ≤ ((ixs (bitI n b) n).length : Int)) = true := decide_eq_true (by omega)
            clear S he hb
            generalize (ixs (bitI n s) n).length = l1 at *
            generalize (ixs (bitI n b) n).length = l2 at *
            go_wp2_with (first
              | (go_at_call 45; (with_reducible refine ((CK _).out).mono ?_); rintro e w' ⟨rfl, rfl⟩)
              | (go_at_call 45; (with_reducible refine ((CB _).out).mono ?_); rintro e w' ⟨rfl, rfl⟩))
            go_roundg (M - (s + 1))
            case measure => omega
            case rel => exact ⟨s + 1, s, true, rfl, rfl, rfl, rfl, by omega, by omega, rfl, T⟩
          · have T : Hid (FsI n least F sum (s + 1) b true) := S.out.more hc
            unfold sz at hc
            have q2 : decide (((ixs (bitI n s) n).length : Int) ≤ ((ixs (bitI n b) n).length : Int)) = false := decide_eq_false (by omega)
            clear S he hb
            generalize (ixs (bitI n s) n).length = l1 at *
            generalize (ixs (bitI n b) n).length = l2 at *
            go_wp2_with (first
              | (go_at_call 45; (with_reducible refine ((CK _).out).mono ?_); rintro e w' ⟨rfl, rfl⟩)
              | (go_at_call 45; (with_reducible refine ((CB _).out).mono ?_); rintro e w' ⟨rfl, rfl⟩))
            go_roundg (M - (s + 1))
            case measure => omega
            case rel => exact ⟨s + 1, b, true, rfl, rfl, rfl, rfl, by omega, by omega, rfl, T⟩
      · have q1 : (x == sum) = false := by simpa using he
        have T : Hid (FsI n least F sum (s + 1) b fd) := S.out.skip (by rw [hx]; exact he)
        clear S he
        go_wp2_with fail
        go_roundg (M - (s + 1))
        case measure => omega
        case rel => exact ⟨s + 1, b, fd, rfl, rfl, rfl, rfl, by omega, by omega, rfl, T⟩
    · have e : s = M := by omega
      subst e
      go_wp2_with fail
      go_ret2
      exact ⟨rfl, b, fd, rfl, S.out⟩
end Go.Proofs.YtjonhhmapbibaaaDoor
