/- Layer 2: the reference's decimal text of a magnitude. -/
import Derived.Test.YtfcplndfoboaaaaDoorRText
import Derived.Test.YtfcplndfoboaaaaDoorRLawMath
namespace Go.Proofs.YtfcplndfoboaaaaDoor
set_option linter.unusedVariables false
open Go.RowKit Go.Shelf

theorem dec_len : ∀ n : Nat, (Lib.decDigits n).length ≤ n / 10 + 1 := by
  intro n
  induction n using Nat.strongRecOn with
  | ind n ih =>
    rw [Lib.decDigits]
    split
    · simp
    · have := ih (n / 10) (by omega)
      rw [List.length_append]
      show _ + 1 ≤ _
      omega
theorem dec_back (w : World) (t : Nat) (ht : t < 10) : (convert 77 9 (.slice (some ⟨w.heap.size, 0, none⟩) 1 1)).run Tryd.prog (w.alloc (.cells #[.int .u8 (48 + (t : Int))] 5)) =
    .ok (.string ⟨#[UInt8.ofNat (48 + t)]⟩) (w.alloc (.cells #[.int .u8 (48 + (t : Int))] 5)) := by
  exact run_convert_bytes_back (P := Tryd.prog) _ 77 9 5 ⟨w.heap.size, 0, none⟩ 1 [UInt8.ofNat (48 + t)] Tryd.underlying77 Tryd.underlying5 Tryd.underlying9 (fun j hj => by
    obtain rfl : j = 0 := by simpa using hj
    have h : (w.alloc (.cells #[.int .u8 (48 + (t : Int))] 5)).cell? ⟨w.heap.size, 0, none⟩ = some (.int .u8 (48 + (t : Int))) := by simp [go_sem]
    have e : ((UInt8.ofNat (48 + t)).toNat : Int) = 48 + (t : Int) := by
      rw [UInt8.toNat_ofNat_of_lt' (by show 48 + t < 256; omega)]; omega
    show World.cell? _ ⟨w.heap.size, 0 + 0, none⟩ = some (.int .u8 ((UInt8.ofNat (48 + t)).toNat : Int))
    rw [e]; exact h)

set_option maxRecDepth 100000 in
set_option maxHeartbeats 1000000 in
theorem refDecimal_any (n : Nat) (w : World) (h0 : n < 18446744073709551616) :
    Calls Tryd.prog 27 #[.int .u64 n] w fun e w' => e = .returned (.string ⟨(Lib.decDigits n).toArray⟩) ∧ Below w.heap.size w w' := by
  have S0 := Lib.hid (Below.refl w.heap.size w)
  obtain ⟨D, hD⟩ : ∃ D, Lib.decDigits n = D := ⟨_, rfl⟩
  rw [hD]
  have HD : Hid (Lib.decDigits n ++ [] = D) := by simpa [Hid] using hD
  have HL : Hid (D.length ≤ n / 10 + 1) := by rw [← hD]; exact dec_len n
  clear hD
  go_enter Tryd.func27, Tryd.ntmps27
  go_wp2
  go_loopg [0, 3] n (fun g s0 s3 wx => ∃ (m : Nat) (out : List UInt8), s0 = .int .u64 m ∧ s3 = .string ⟨out.toArray⟩ ∧ m = g ∧ m < 18446744073709551616 ∧ Hid (Lib.decDigits m ++ out = D) ∧ Hid (Below w.heap.size w wx))
  case atStart => exact ⟨n, [], rfl, rfl, rfl, h0, HD, S0⟩
  case round =>
    clear S0 HD
    obtain ⟨m, out, rfl, rfl, rfl, hm, R, S⟩ := hrel
    obtain ⟨t, ht⟩ : ∃ t, m % 10 = t := ⟨_, rfl⟩
    obtain ⟨m2, hm2⟩ : ∃ t, m / 10 = t := ⟨_, rfl⟩
    have ht2 : t < 10 := by omega
    have HT := Lib.hid ht
    have HM := Lib.hid hm2
    have w3 : IntKind.u64.wrap (48 + (t : Int)) = 48 + (t : Int) := IntWalk.u64_in _ (by omega)
    have q1 : (m : Int).tmod 10 = (t : Int) := by rw [Int.tmod_eq_emod_of_nonneg (by omega)]; omega
    have q2 : (m : Int).tdiv 10 = (m2 : Int) := by rw [Int.tdiv_eq_ediv_of_nonneg (by omega)]; omega
    clear ht hm2
    have hlen := congrArg List.length R.out
    rw [List.length_append] at hlen
    have hol : ¬ 9223372036854775807 < 1 + out.length := by have := HL.out; omega
    have hcat : ∀ x : UInt8, (⟨#[x]⟩ : ByteArray) ++ ⟨out.toArray⟩ = ⟨(x :: out).toArray⟩ := fun x => by apply Go.WideShapes.bytes_inj; simp
    have HC := Lib.hid hcat
    have w5 : IntKind.u64.wrap (m2 : Int) = (m2 : Int) := IntWalk.u64_in _ (by have := HM.out; omega)
    have hofs : ∀ k : Nat, (48 : UInt8) + UInt8.ofNat k = UInt8.ofNat (48 + k) := fun k => by rw [UInt8.ofNat_add]; rfl
    have HOF := Lib.hid hofs
    clear hlen hcat hofs
    by_cases hlt : 9 < m
    · have hcv := dec_back wr t ht2
      go_wp2_with fail
      go_roundg m2
      case measure => have := HM.out; omega
      case rel => exact ⟨m2, UInt8.ofNat (48 + t) :: out, rfl, by rw [HC.out, HOF.out], rfl, by have := HM.out; omega, by
        have h := R.out
        rw [Lib.decDigits, dif_neg (by omega), HM.out, HT.out, List.append_assoc] at h
        exact h, Lib.hid (below_on S.out ((Below.refl _ _).alloc (Nat.le_refl _) _))⟩
    · have hcv := dec_back wr m (by omega)
      go_wp2_with fail
      have h := R.out
      rw [Lib.decDigits, dif_pos (by omega)] at h
      subst h
      go_ret
      exact ⟨by rw [HC.out, HOF.out]; rfl, below_on S.out ((Below.refl _ _).alloc (Nat.le_refl _) _)⟩

end Go.Proofs.YtfcplndfoboaaaaDoor
