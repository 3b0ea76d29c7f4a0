/- The walk of the law DecimalLong. -/
import Derived.Test.YtbpcfgeefelfdaaAwake
namespace Go.Proofs.Ytbpcfgeefelfdaa
open Go.RowKit

theorem spaces : ∀ (n : Nat) (acc : List Tok) (line col : Nat), tokGo n acc line col (List.replicate n 32) = .all (acc ++ [⟨5, [], line, col + n⟩])
  | 0, acc, line, col => rfl
  | n + 1, acc, line, col => by
    have hf : firstS (32 :: List.replicate n 32) = (0, 1) := rfl
    rw [List.replicate_succ]
    unfold tokGo
    simp only [hf]
    rw [if_neg (by omega), if_pos trivial, List.drop_one, List.tail_cons, spaces n acc line (col + 1), Nat.add_assoc, Nat.add_comm 1 n]

theorem rep32 : ∀ n, Lib.repeatL [32] n = List.replicate n 32
  | 0 => rfl
  | n + 1 => by
    show [32] ++ Lib.repeatL [32] n = _
    rw [rep32 n]; rfl

theorem byte_back (w : World) (c : Nat) (hc : c ≤ 255) : (convert 48 9 (.slice (some ⟨w.heap.size, 0, none⟩) 1 1)).run Try.prog (w.alloc (.cells #[.int .u8 (c : Int)] 5)) =
    .ok (.string (bytesOf [UInt8.ofNat c])) (w.alloc (.cells #[.int .u8 (c : Int)] 5)) := by
  have h : Has (w.alloc (.cells #[.int .u8 (c : Int)] 5)) w.heap.size 5 #[.int .u8 (c : Int)] := heap_alloc_new w _
  exact run_convert_bytes_back (P := Try.prog) _ 48 9 5 ⟨w.heap.size, 0, none⟩ 1 [UInt8.ofNat c] Try.underlying48 Try.underlying5 Try.underlying9 (fun j hj => by
    obtain rfl : j = 0 := by simpa using hj
    rw [addr_add, h.cell]
    show some (Value.int .u8 (c : Int)) = some (.int .u8 ((UInt8.ofNat c).toNat : Int))
    rw [UInt8.toNat_ofNat_of_lt' (by simp [UInt8.size]; omega)])

set_option maxRecDepth 100000 in
set_option maxHeartbeats 4000000 in
theorem long_walk0 (c m : Nat) (hc : c ≤ 255) (hm : m ≤ 255) (w : World) :
    Calls Try.prog 7 #[.int .u8 (c : Int), .int .u8 (m : Int)] w fun e w' => e = .returned (.bool true) ∧ Below w.heap.size w w' := by
  have hmi : (m : Int) ≤ 255 := by omega
  go_enter Try.func7, Try.ntmps7
  go_wp2_with fail
  refine (awake_any _).mono ?_
  rintro e w1 ⟨rfl, hb1⟩
  have Hb1 := Lib.hid hb1
  clear hb1
  have hcv := byte_back w1 c hc
  go_wp2_with fail
  rw [show (262145 : Int) + (m : Int) = ((262145 + m : Nat) : Int) from by omega]
  have hS1 : (bytesOf [UInt8.ofNat c]).size = 1 := rfl
  refine (Try.strings_Repeat (bytesOf [UInt8.ofNat c]) (262145 + m) _ (by omega) (by rw [hS1]; omega)).mono ?_
  rintro e w2 ⟨rfl, hb2⟩
  have Hb2 := Lib.hid ((Hb1.out.alloc Hb1.out.size _).trans (hb2.mono (by simp; have := Hb1.out.size; omega)))
  obtain ⟨S, hS⟩ : ∃ S : ByteArray, S = ⟨(Lib.repeatL (bytesOf [UInt8.ofNat c]).data.toList (262145 + m)).toArray⟩ := ⟨_, rfl⟩
  have hSs : S.size = 262145 + m := by
    rw [hS]
    show (Lib.repeatL (bytesOf [UInt8.ofNat c]).data.toList (262145 + m)).toArray.size = _
    rw [List.size_toArray, Lib.repeatL_length]
    simp [bytesOf]
  rw [← hS]
  clear hb2 hS hcv hS1
  go_wp2_with fail
  refine (Tokens_long S _ (by omega)).mono ?_
  rintro e w3 ⟨rfl, hb3⟩
  have Hb3 := Lib.hid (Hb2.out.trans (hb3.mono Hb2.out.size))
  clear hb3 hSs
  go_wp2_with fail
  refine (Try.strings_Repeat ⟨#[32]⟩ 262144 _ (by omega) (by show 1 * 262144 ≤ _; omega)).mono ?_
  rintro e w4 ⟨rfl, hb4⟩
  have hsz : w3.heap.size + 1 ≤ w4.heap.size := by have := hb4.size; simpa using this
  have h4 : w4.heap[w3.heap.size]? = some (.cells #[.int .i64 0, .int .i64 0] 38 (0, 0)) := (hb4.block w3.heap.size (by simp)).trans (heap_alloc_new w3 _)
  have Hb4 := Lib.hid ((Hb3.out.alloc Hb3.out.size _).trans (hb4.mono (by simp; have := Hb3.out.size; omega)))
  obtain ⟨Q, hQ⟩ : ∃ Q : ByteArray, Q = ⟨(Lib.repeatL (⟨#[32]⟩ : ByteArray).data.toList 262144).toArray⟩ := ⟨_, rfl⟩
  have hQl : Q.data.toList = List.replicate 262144 32 := by
    rw [hQ, show (⟨#[32]⟩ : ByteArray).data.toList = [32] from rfl, rep32]
  have hQs : Q.size = 262144 := by
    have : Q.data.toList.length = 262144 := by rw [hQl, List.length_replicate]
    simpa using this
  rw [← hQ]
  have H4 := Lib.hid h4
  have HQl := Lib.hid hQl
  have HQs := Lib.hid hQs
  clear hb4 hQ hQl hQs h4
  go_wp2_with fail
  refine (Tokens_any Q _ (by have := HQs.out; omega)).mono ?_
  rintro e w5 ⟨ho, hb5⟩
  rw [HQs.out, HQl.out, spaces] at ho
  obtain ⟨v, rfl, hown⟩ := ho
  obtain ⟨g, cap, rfl, _, hlt⟩ := hown.form (by simp)
  have hlen : ([] ++ [({ kind := 5, text := [], line := 1, col := 1 + 262144 } : Tok)]).length = 1 := rfl
  rw [hlen]
  have h5 : Has w5 w3.heap.size 38 #[.int .i64 0, .int .i64 0] := (hb5.block w3.heap.size (by omega)).trans H4.out
  have d0 : w5.cell? ⟨w3.heap.size, 0, none⟩ = some (.int .i64 0) := h5.cell 0
  have d1 : w5.cell? ⟨w3.heap.size, 1, none⟩ = some (.int .i64 0) := h5.cell 1
  have hlt5 : w3.heap.size < w5.heap.size := h5.lt
  have Hb5 := Lib.hid (Hb4.out.trans (hb5.mono Hb4.out.size))
  clear hb5 hown hlen h5 hlt
  go_wp2_with fail
  go_ret
  exact ⟨rfl, Hb5.out.alloc Hb5.out.size _⟩

theorem long_walk (c m : Int) (hc : 0 ≤ c ∧ c ≤ 255) (hm : 0 ≤ m ∧ m ≤ 255) (w : World) :
    Calls Try.prog 7 #[.int .u8 c, .int .u8 m] w fun e w' => e = .returned (.bool true) ∧ Below w.heap.size w w' := by
  obtain ⟨c, rfl⟩ := Int.eq_ofNat_of_zero_le hc.1
  obtain ⟨m, rfl⟩ := Int.eq_ofNat_of_zero_le hm.1
  exact long_walk0 c m (by omega) (by omega) w

end Go.Proofs.Ytbpcfgeefelfdaa
