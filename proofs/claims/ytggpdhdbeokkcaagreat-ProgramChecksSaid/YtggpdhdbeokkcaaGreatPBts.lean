/- Layer 5: Check. Layer 5: the answers of Solve and Farkas are accepted. Layer 5: what Solve and Farkas answer is accepted by Check and Refutes. Layer 5: the chapter's example. Layer 5: the chapter's examples hold. Layer 5: the laws' own tests of size. Layer 5: the laws' own test of lists. Layer 5: no feasible point has a lesser value. Layer 5: the law ProgramBeats, walked. Layer 5: ProgramBeats at parameters. Layer 5: a law's parameter of type Program, opened. -/
import Derived.Test.YtggpdhdbeokkcaaGreatPSums
import Derived.Test.YtggpdhdbeokkcaaGreatPVal
namespace Go.Proofs.YtggpdhdbeokkcaaGreat
set_option linter.unusedVariables false
open Go.RowKit Go.Shelf

structure CkAR (xb kb ab n m pcc prc yc : Nat) (pca pra ya : Option Addr) (a d va vd : Int) (Wc : World) (L : Nat → Bool) (v : Nat → Value) (W : World) : Prop where
 st : Below Wc.heap.size Wc W
 f0 : Had L 0 (v 83 = .agg #[.slice pca n pcc, .slice pra m prc])
 f1 : Had L 1 (v 84 = .pointer (some ⟨kb, 3, none⟩))
 f2 : Had L 2 (v 85 = .slice ya m yc)
 f3 : Had L 3 (v 86 = .bool false)
 f4 : Had L 4 (v 87 = .bool false)
 f5 : Had L 5 (v 88 = undef)
 f6 : Had L 6 (v 89 = undef)
 f7 : Had L 7 (v 90 = undef)
 f8 : Had L 8 (v 91 = undef)
 f9 : Had L 9 (v 92 = .bool false)
 f10 : Had L 10 (v 93 = .bool false)
 f11 : Had L 11 (v 94 = undef)
 f12 : Had L 12 (v 95 = undef)
 f13 : Had L 13 (v 96 = undef)
 f14 : Had L 14 (v 97 = undef)
 f15 : Had L 15 (v 98 = undef)
 f16 : Had L 16 (v 99 = undef)
 f17 : Had L 17 (v 100 = undef)
 f18 : Had L 18 (v 101 = undef)
 f19 : Had L 19 (v 102 = undef)
 f20 : Had L 20 (v 103 = .bool false)
 f21 : Had L 21 (v 13 = .bool false)
 w2 : Had L 2 (∀ j ∈ [1], L j = true)
 w3 : Had L 3 (∀ j ∈ [0, 2], L j = true)
 w4 : Had L 4 (∀ j ∈ [3], L j = true)
 w5 : Had L 5 (∀ j ∈ [4], L j = true)
 w6 : Had L 6 (∀ j ∈ [4], L j = true)
 w7 : Had L 7 (∀ j ∈ [4, 6], L j = true)
 w8 : Had L 8 (∀ j ∈ [4, 5, 7], L j = true)
 w9 : Had L 9 (∀ j ∈ [4, 8], L j = true)
 w10 : Had L 10 (∀ j ∈ [9], L j = true)
 w11 : Had L 11 (∀ j ∈ [10], L j = true)
 w12 : Had L 12 (∀ j ∈ [10], L j = true)
 w13 : Had L 13 (∀ j ∈ [10, 12], L j = true)
 w14 : Had L 14 (∀ j ∈ [10, 13], L j = true)
 w15 : Had L 15 (∀ j ∈ [10, 11, 14], L j = true)
 w16 : Had L 16 (∀ j ∈ [10, 15], L j = true)
 w17 : Had L 17 (∀ j ∈ [10], L j = true)
 w18 : Had L 18 (∀ j ∈ [10, 17], L j = true)
 w19 : Had L 19 (∀ j ∈ [10, 16, 18], L j = true)
 w20 : Had L 20 (∀ j ∈ [10, 19], L j = true)
 w21 : Had L 21 (∀ j ∈ [20], L j = true)

structure CkBR (xb kb ab n m pcc prc yc : Nat) (pca pra ya : Option Addr) (a d va vd : Int) (Wc : World) (L : Nat → Bool) (v : Nat → Value) (W : World) : Prop where
 st : Below Wc.heap.size Wc W
 f0 : Had L 0 (v 83 = .agg #[.slice pca n pcc, .slice pra m prc])
 f1 : Had L 1 (v 84 = .pointer (some ⟨kb, 3, none⟩))
 f2 : Had L 2 (v 85 = .slice ya m yc)
 f3 : Had L 3 (v 86 = .bool true)
 f4 : Had L 4 (v 87 = .bool true)
 f5 : Had L 5 (v 88 = .slice (some ⟨ab, 0, none⟩) (n + 1) (n + 1))
 f6 : Had L 6 (v 89 = .pointer (some ⟨xb, 0, none⟩))
 f7 : Had L 7 (v 90 = .slice pca n pcc)
 f8 : Had L 8 (v 91 = .bool false)
 f9 : Had L 9 (v 92 = .bool false)
 f10 : Had L 10 (v 93 = .bool false)
 f11 : Had L 11 (v 94 = undef)
 f12 : Had L 12 (v 95 = undef)
 f13 : Had L 13 (v 96 = undef)
 f14 : Had L 14 (v 97 = undef)
 f15 : Had L 15 (v 98 = undef)
 f16 : Had L 16 (v 99 = undef)
 f17 : Had L 17 (v 100 = undef)
 f18 : Had L 18 (v 101 = undef)
 f19 : Had L 19 (v 102 = undef)
 f20 : Had L 20 (v 103 = .bool false)
 f21 : Had L 21 (v 13 = .bool false)
 w2 : Had L 2 (∀ j ∈ [1], L j = true)
 w3 : Had L 3 (∀ j ∈ [0, 2], L j = true)
 w4 : Had L 4 (∀ j ∈ [3], L j = true)
 w5 : Had L 5 (∀ j ∈ [4], L j = true)
 w6 : Had L 6 (∀ j ∈ [4], L j = true)
 w7 : Had L 7 (∀ j ∈ [4, 6], L j = true)
 w8 : Had L 8 (∀ j ∈ [4, 5, 7], L j = true)
 w9 : Had L 9 (∀ j ∈ [4, 8], L j = true)
 w10 : Had L 10 (∀ j ∈ [9], L j = true)
 w11 : Had L 11 (∀ j ∈ [10], L j = true)
 w12 : Had L 12 (∀ j ∈ [10], L j = true)
 w13 : Had L 13 (∀ j ∈ [10, 12], L j = true)
 w14 : Had L 14 (∀ j ∈ [10, 13], L j = true)
 w15 : Had L 15 (∀ j ∈ [10, 11, 14], L j = true)
 w16 : Had L 16 (∀ j ∈ [10, 15], L j = true)
 w17 : Had L 17 (∀ j ∈ [10], L j = true)
 w18 : Had L 18 (∀ j ∈ [10, 17], L j = true)
 w19 : Had L 19 (∀ j ∈ [10, 16, 18], L j = true)
 w20 : Had L 20 (∀ j ∈ [10, 19], L j = true)
 w21 : Had L 21 (∀ j ∈ [20], L j = true)

structure CkCR (xb kb ab n m pcc prc yc : Nat) (pca pra ya : Option Addr) (a d va vd : Int) (Wc : World) (L : Nat → Bool) (v : Nat → Value) (W : World) : Prop where
 st : Below Wc.heap.size Wc W
 f0 : Had L 0 (v 83 = .agg #[.slice pca n pcc, .slice pra m prc])
 f1 : Had L 1 (v 84 = .pointer (some ⟨kb, 3, none⟩))
 f2 : Had L 2 (v 85 = .slice ya m yc)
 f3 : Had L 3 (v 86 = .bool true)
 f4 : Had L 4 (v 87 = .bool true)
 f5 : Had L 5 (v 88 = .slice (some ⟨ab, 0, none⟩) (n + 1) (n + 1))
 f6 : Had L 6 (v 89 = .pointer (some ⟨xb, 0, none⟩))
 f7 : Had L 7 (v 90 = .slice pca n pcc)
 f8 : Had L 8 (v 91 = .bool true)
 f9 : Had L 9 (v 92 = .bool true)
 f10 : Had L 10 (v 93 = .bool true)
 f11 : Had L 11 (v 94 = .slice (some ⟨ab, 0, none⟩) (n + 1) (n + 1))
 f12 : Had L 12 (v 95 = .pointer (some ⟨xb, 0, none⟩))
 f13 : Had L 13 (v 96 = .slice pca n pcc)
 f14 : Had L 14 (v 97 = .int .i64 (n : Int))
 f15 : Had L 15 (v 98 = .pointer (some ⟨ab, n * 2, none⟩))
 f16 : Had L 16 (v 99 = .agg #[.int .i64 a, .int .i64 d])
 f17 : Had L 17 (v 100 = .pointer (some ⟨kb, 0, none⟩))
 f18 : Had L 18 (v 101 = .agg #[.int .i64 va, .int .i64 vd])
 f19 : Had L 19 (v 102 = .bool true)
 f20 : Had L 20 (v 103 = .bool true)
 f21 : Had L 21 (v 13 = .bool true)
 w2 : Had L 2 (∀ j ∈ [1], L j = true)
 w3 : Had L 3 (∀ j ∈ [0, 2], L j = true)
 w4 : Had L 4 (∀ j ∈ [3], L j = true)
 w5 : Had L 5 (∀ j ∈ [4], L j = true)
 w6 : Had L 6 (∀ j ∈ [4], L j = true)
 w7 : Had L 7 (∀ j ∈ [4, 6], L j = true)
 w8 : Had L 8 (∀ j ∈ [4, 5, 7], L j = true)
 w9 : Had L 9 (∀ j ∈ [4, 8], L j = true)
 w10 : Had L 10 (∀ j ∈ [9], L j = true)
 w11 : Had L 11 (∀ j ∈ [10], L j = true)
 w12 : Had L 12 (∀ j ∈ [10], L j = true)
 w13 : Had L 13 (∀ j ∈ [10, 12], L j = true)
 w14 : Had L 14 (∀ j ∈ [10, 13], L j = true)
 w15 : Had L 15 (∀ j ∈ [10, 11, 14], L j = true)
 w16 : Had L 16 (∀ j ∈ [10, 15], L j = true)
 w17 : Had L 17 (∀ j ∈ [10], L j = true)
 w18 : Had L 18 (∀ j ∈ [10, 17], L j = true)
 w19 : Had L 19 (∀ j ∈ [10, 16, 18], L j = true)
 w20 : Had L 20 (∀ j ∈ [10, 19], L j = true)
 w21 : Had L 21 (∀ j ∈ [20], L j = true)

structure CkDR (xb kb ab n m pcc prc yc : Nat) (pca pra ya : Option Addr) (a d va vd : Int) (Wc : World) (L : Nat → Bool) (v : Nat → Value) (W : World) : Prop where
 st : Below Wc.heap.size Wc W
 f0 : Had L 0 (v 83 = .agg #[.slice pca n pcc, .slice pra m prc])
 f1 : Had L 1 (v 84 = .pointer (some ⟨kb, 3, none⟩))
 f2 : Had L 2 (v 85 = .slice ya m yc)
 f3 : Had L 3 (v 86 = .bool true)
 f4 : Had L 4 (v 87 = .bool true)
 f5 : Had L 5 (v 88 = .slice (some ⟨ab, 0, none⟩) (n + 1) (n + 1))
 f6 : Had L 6 (v 89 = .pointer (some ⟨xb, 0, none⟩))
 f7 : Had L 7 (v 90 = .slice pca n pcc)
 f8 : Had L 8 (v 91 = .bool true)
 f9 : Had L 9 (v 92 = .bool true)
 f10 : Had L 10 (v 93 = .bool true)
 f11 : Had L 11 (v 94 = .slice (some ⟨ab, 0, none⟩) (n + 1) (n + 1))
 f12 : Had L 12 (v 95 = .pointer (some ⟨xb, 0, none⟩))
 f13 : Had L 13 (v 96 = .slice pca n pcc)
 f14 : Had L 14 (v 97 = .int .i64 (n : Int))
 f15 : Had L 15 (v 98 = .pointer (some ⟨ab, n * 2, none⟩))
 f16 : Had L 16 (v 99 = .agg #[.int .i64 a, .int .i64 d])
 f17 : Had L 17 (v 100 = .pointer (some ⟨kb, 0, none⟩))
 f18 : Had L 18 (v 101 = .agg #[.int .i64 va, .int .i64 vd])
 f19 : Had L 19 (v 102 = .bool false)
 f20 : Had L 20 (v 103 = .bool false)
 f21 : Had L 21 (v 13 = .bool false)
 w2 : Had L 2 (∀ j ∈ [1], L j = true)
 w3 : Had L 3 (∀ j ∈ [0, 2], L j = true)
 w4 : Had L 4 (∀ j ∈ [3], L j = true)
 w5 : Had L 5 (∀ j ∈ [4], L j = true)
 w6 : Had L 6 (∀ j ∈ [4], L j = true)
 w7 : Had L 7 (∀ j ∈ [4, 6], L j = true)
 w8 : Had L 8 (∀ j ∈ [4, 5, 7], L j = true)
 w9 : Had L 9 (∀ j ∈ [4, 8], L j = true)
 w10 : Had L 10 (∀ j ∈ [9], L j = true)
 w11 : Had L 11 (∀ j ∈ [10], L j = true)
 w12 : Had L 12 (∀ j ∈ [10], L j = true)
 w13 : Had L 13 (∀ j ∈ [10, 12], L j = true)
 w14 : Had L 14 (∀ j ∈ [10, 13], L j = true)
 w15 : Had L 15 (∀ j ∈ [10, 11, 14], L j = true)
 w16 : Had L 16 (∀ j ∈ [10, 15], L j = true)
 w17 : Had L 17 (∀ j ∈ [10], L j = true)
 w18 : Had L 18 (∀ j ∈ [10, 17], L j = true)
 w19 : Had L 19 (∀ j ∈ [10, 16, 18], L j = true)
 w20 : Had L 20 (∀ j ∈ [10, 19], L j = true)
 w21 : Had L 21 (∀ j ∈ [20], L j = true)

/-- The first error of three. -/
def orE (a b c : Int) : Int := if a ≠ 0 then a else if b ≠ 0 then b else c
set_option maxHeartbeats 4000000 in
theorem or_any (B : Nat) (a b c : Int) (w : World) (h0 : w.cell? ⟨B, 0, none⟩ = some (.int .i64 a)) (h1 : w.cell? ⟨B, 1, none⟩ = some (.int .i64 b)) (h2 : w.cell? ⟨B, 2, none⟩ = some (.int .i64 c)) :
  Calls Tryz.prog 31 #[.slice (some ⟨B, 0, none⟩) 3 3] w fun e w' => e = .returned (.int .i64 (orE a b c)) ∧ Below w.heap.size w w' := by
 have H0 := Lib.hid (And.intro h0 (And.intro h1 h2))
 clear h0 h1 h2
 go_enter Tryz.func31, Tryz.ntmps31
 go_wp2_with fail
 have S0 : Hid ((0 : Nat) ≤ 3 ∧ (0 < 0 → a = 0) ∧ (1 < 0 → b = 0) ∧ (2 < 0 → c = 0)) := ⟨by omega, by omega, by omega, by omega⟩
 go_loopg [8] 3 (fun g s8 wx => ∃ i : Nat, s8 = .int .i64 i ∧ g = 3 - i ∧ wx = w ∧ Hid (i ≤ 3 ∧ (0 < i → a = 0) ∧ (1 < i → b = 0) ∧ (2 < i → c = 0)))
 case atStart => exact ⟨0, rfl, rfl, rfl, S0⟩
 case round =>
  clear S0
  obtain ⟨i, rfl, rfl, rfl, S⟩ := hrel
  rename World => W1
  have hi3 := S.out.1
  by_cases hlt : i < 3
  ·have wk : IntKind.i64.wrap ((i : Int) + 1) = ((i + 1 : Nat) : Int) := by rw [IntWalk.i64_in _ (by omega)]; omega
   have key : ∃ v, W1.cell? ⟨B, i, none⟩ = some (.int .i64 v) ∧ (v ≠ 0 → orE a b c = v) ∧ (v = 0 → (0 < i + 1 → a = 0) ∧ (1 < i + 1 → b = 0) ∧ (2 < i + 1 → c = 0)) := by
    have hs := S.out
    obtain rfl | rfl | rfl : i = 0 ∨ i = 1 ∨ i = 2 := by omega
    ·exact ⟨a, H0.out.1, fun h => if_pos h, fun h => ⟨fun _ => h, fun q => by omega, fun q => by omega⟩⟩
    ·have ha := hs.2.1 (by omega)
     exact ⟨b, H0.out.2.1, fun h => by unfold orE; rw [if_neg (fun q => q ha), if_pos h], fun h => ⟨fun _ => ha, fun _ => h, fun q => by omega⟩⟩
    ·have ha := hs.2.1 (by omega)
     have hb := hs.2.2.1 (by omega)
     exact ⟨c, H0.out.2.2, fun h => by unfold orE; rw [if_neg (fun q => q ha), if_neg (fun q => q hb)], fun h => ⟨fun _ => ha, fun _ => hb, fun _ => h⟩⟩
   obtain ⟨v, p1, hv1, hv2⟩ := key
   have HV := Lib.hid (And.intro hv1 hv2)
   clear hv1 hv2
   by_cases hz : v = 0
   ·subst hz
    have T : Hid (i + 1 ≤ 3 ∧ (0 < i + 1 → a = 0) ∧ (1 < i + 1 → b = 0) ∧ (2 < i + 1 → c = 0)) := ⟨by omega, HV.out.2 rfl⟩
    clear S HV
    go_wp2_with fail
    go_roundg (3 - (i + 1))
    case measure => omega
    case rel => exact ⟨i + 1, rfl, rfl, rfl, T⟩
   ·have nb : (v != 0) = true := by simpa using hz
    have HE := Lib.hid (HV.out.1 hz)
    clear S HV
    go_wp2_with fail
    go_ret
    exact ⟨by rw [HE.out]; rfl, Below.refl _ _⟩
  ·have e : i = 3 := by omega
   subst e
   have HE : Hid (orE a b c = 0) := by
    show _ = _
    have hs := S.out
    unfold orE
    rw [if_neg (fun q => q (hs.2.1 (by omega))), if_neg (fun q => q (hs.2.2.1 (by omega))), hs.2.2.2 (by omega)]
   clear S
   go_wp2_with fail
   go_ret
   exact ⟨by rw [HE.out]; rfl, Below.refl _ _⟩

theorem orE_two {a b c : Int} (ha : a = 0 ∨ a = 5) (hb : b = 0 ∨ b = 5) (hc : c = 0 ∨ c = 5) : (orE a b c = 0 ∧ a = 0 ∧ b = 0 ∧ c = 0) ∨ (orE a b c = 5 ∧ ¬ (a = 0 ∧ b = 0 ∧ c = 0)) := by
 rcases ha with rfl | rfl <;> rcases hb with rfl | rfl <;> rcases hc with rfl | rfl <;> decide

/-- An answer is right. -/
structure ChkR (p : PgD) (va vd : Int) (X Y : Nat → Int × Int) : Prop where
 fea : FeaR p X
 val : comS p.C X p.n = (va, vd, 0)
 sg : RgS p Y
 col : ∀ j, j < p.n → cmpI (comS (wF p j) Y p.m).1 (comS (wF p j) Y p.m).2.1 (p.C j) ≤ 0
 rgt : comS (wF p p.n) Y p.m = (va, vd, 0)
/-- No sum of a check is too big. -/
def ChkF (p : PgD) (X Y : Nat → Int × Int) : Prop := (∀ i, i < p.m → (comS (p.Z i) X p.n).2.2 = 0) ∧ (comS p.C X p.n).2.2 = 0 ∧ ∀ j, j < p.n + 1 → (comS (wF p j) Y p.m).2.2 = 0
/-- What Check answers. -/
def ChkO (p : PgD) (va vd : Int) (Nx Ny : Nat) (X Y : Nat → Int × Int) (v : Bool) (er : Int) : Prop :=
 (¬ (p.Ok ∧ Vld va vd ∧ FrV Nx X ∧ FrV Ny Y) ∧ v = false ∧ er = 1) ∨
 (p.Ok ∧ Vld va vd ∧ FrV Nx X ∧ FrV Ny Y ∧ ¬ (Nx = p.n ∧ Ny = p.m) ∧ v = false ∧ er = 3) ∨
 (p.Ok ∧ Vld va vd ∧ FrV Nx X ∧ FrV Ny Y ∧ Nx = p.n ∧ Ny = p.m ∧ ¬ ChkF p X Y ∧ v = false ∧ er = 5) ∨
 (p.Ok ∧ Vld va vd ∧ FrV Nx X ∧ FrV Ny Y ∧ Nx = p.n ∧ Ny = p.m ∧ ChkF p X Y ∧ (v = true ↔ ChkR p va vd X Y) ∧ er = 0)

set_option maxRecDepth 100000 in
set_option maxHeartbeats 16000000 in
theorem Check_any (p : PgD) (hs : p.Sm) (va vd : Int) (xa : Option Addr) (Nx xc : Nat) (X : Nat → Int × Int) (ya : Option Addr) (Ny yc : Nat) (Y : Nat → Int × Int) (w : World) (hp : p.At w) (hx : IFr w xa Nx X) (hy : IFr w ya Ny Y) (hbx : FrB Nx X) (hby : FrB Ny Y) (hbv : FrB 1 (fun _ => (va, vd))) (hNx : Nx ≤ 1000) (hNy : Ny ≤ 1000) :
  Calls Tryz.prog 8 #[p.val, .agg #[.int .i64 va, .int .i64 vd, .slice xa Nx xc, .slice ya Ny yc]] w fun e w' => Below w.heap.size w w' ∧ ∃ v er, e = .returned (.tuple #[.bool v, .int .i64 er]) ∧ ChkO p va vd Nx Ny X Y v er := by
 unfold PgD.val
 obtain ⟨v, hv⟩ := bool_of p.Ok
 obtain ⟨t, ht⟩ := bool_of (FrV 1 (fun _ => (va, vd)))
 obtain ⟨u1, hu1⟩ := bool_of (FrV Nx X)
 obtain ⟨u2, hu2⟩ := bool_of (FrV Ny Y)
 have HT : Hid (t = true ↔ Vld va vd) := ht.trans ⟨fun h => h 0 (by omega), fun h _ _ => h⟩
 obtain ⟨w1, hw1⟩ : ∃ W, W = w.alloc (Obj.cells #[Value.slice p.ca p.n p.cc, .slice p.ra p.m p.rc] 25) := ⟨_, rfl⟩
 obtain ⟨xb, hxb⟩ : ∃ x, x = w.heap.size := ⟨_, rfl⟩
 obtain ⟨w2, hw2⟩ : ∃ W, W = w1.alloc (Obj.cells #[.int .i64 va, .int .i64 vd, .slice xa Nx xc, .slice ya Ny yc] 30) := ⟨_, rfl⟩
 obtain ⟨kb, hkb⟩ : ∃ x, x = xb + 1 := ⟨_, rfl⟩
 have hkw : kb = w1.heap.size := by rw [hkb, hw1, hxb]; simp
 have hb1 : Below w.heap.size w w1 := by rw [hw1]; exact (Below.refl _ _).alloc (Nat.le_refl _) _
 have hb2 : Below w1.heap.size w1 w2 := by rw [hw2]; exact (Below.refl _ _).alloc (Nat.le_refl _) _
 have hB : Blk w1 xb (.slice p.ca p.n p.cc) (.slice p.ra p.m p.rc) := by rw [hw1, hxb]; exact Blk.new _ _ _ _
 have hA : ABk w2 kb (.int .i64 va) (.int .i64 vd) (.slice xa Nx xc) (.slice ya Ny yc) := by
  rw [hw2, hkw]
  exact ⟨by simp, by simp [go_sem], by simp [go_sem], by simp [go_sem], by simp [go_sem], fun o => by simp [go_sem]⟩
 have HV := Lib.hid hv
 have HU1 := Lib.hid hu1
 have HU2 := Lib.hid hu2
 have CV := Lib.hid (pValid_any p hs v hv w2 (hp.on (below_on hb1 hb2)))
 have CT := fun (W : World) => Lib.hid (pvld_any (some ⟨W.heap.size, 0, none⟩) 1 1 (fun _ => (va, vd)) (W.alloc (Obj.cells #[.int .i64 va, .int .i64 vd] 27)) (fun _ => ⟨_, 0, rfl, by simp, fun j hj => by rw [show 0 + j * 2 = 0 by omega]; exact ⟨by simp [go_sem], by simp [go_sem]⟩⟩) hbv (by omega) t ht)
 have CU1 := fun W (h : Below w.heap.size w W) => Lib.hid (pvld_any xa Nx xc X W (hx.on h) hbx (by omega) u1 hu1)
 have HCU1 := Lib.hid CU1
 have CU2 := fun W (h : Below w.heap.size w W) => Lib.hid (pvld_any ya Ny yc Y W (hy.on h) hby (by omega) u2 hu2)
 have HCU2 := Lib.hid CU2
 have HCT := Lib.hid CT
 have CF := fun W (h : Below w.heap.size w W) => Lib.hid (Feasible_any p hs xa Nx xc X W (hp.on h) (hx.on h) hbx hNx)
 have HCF := Lib.hid CF
 have CL := fun W (h : Below w.heap.size w W) => Lib.hid (Value_any p hs xa Nx xc X W (hp.on h) (hx.on h) hbx hNx)
 have HCL := Lib.hid CL
 have HP := Lib.hid hp
 have HY := Lib.hid hy
 have HB := Lib.hid (below_on hb1 hb2)
 have HXB := Lib.hid (hB.on hb2)
 have HKB := Lib.hid hA
 clear hb1 hb2 hB hA hv ht hu1 hu2 hp hx hy hbx hby hbv hs CU1 CU2 CT CF CL
 unfold PgD.val at CV HCF HCL
 go_enter Tryz.func8, Tryz.ntmps8
 go_upto_region 1 with fail
 rw [← hxb, ← hw1, ← hkb, ← hw2]
 clear hxb hw1 hw2 hkb hkw
 have q0 := HXB.out.2.1
 have q1 := HXB.out.2.2
 cases v
 ·have hno : ¬ (p.Ok ∧ Vld va vd ∧ FrV Nx X ∧ FrV Ny Y) := fun h => by have := HV.out.2 h.1; cases this
  go_wp2_with fail
  (with_reducible refine ((CV.out).mono ?_))
  rintro e w3 ⟨rfl, hb3⟩
  go_wp2_with fail
  go_ret2
  exact ⟨below_on HB.out hb3, false, 1, rfl, .inl ⟨hno, rfl, rfl⟩⟩
 have hok : p.Ok := HV.out.1 rfl
 have hm2 := hok.m2
 have hn2 := hok.n2
 have hn1 := hok.n1
 go_wp2_with fail
 (with_reducible refine ((CV.out).mono ?_))
 rintro e w3 ⟨rfl, hb3⟩
 have HXB := Lib.hid (HXB.out.on hb3)
 have HKB := Lib.hid (HKB.out.on hb3)
 have HB := Lib.hid (below_on HB.out hb3)
 clear CV hb3 q0 q1
 have k0 := HKB.out.c0
 have k1 := HKB.out.c1
 have hb4 : Below w3.heap.size w3 (w3.alloc (Obj.cells #[.int .i64 va, .int .i64 vd] 27)) := (Below.refl _ _).alloc (Nat.le_refl _) _
 have H4 := Lib.hid hb4
 clear hb4
 cases t
 ·have hno : ¬ (p.Ok ∧ Vld va vd ∧ FrV Nx X ∧ FrV Ny Y) := fun h => by have := HT.out.2 h.2.1; cases this
  go_wp2_with fail
  (with_reducible refine (((HCT.out w3).out).mono ?_))
  rintro e w4 ⟨rfl, hb3⟩
  have HB := Lib.hid (below_on HB.out (below_on H4.out hb3))
  clear hb3 k0 k1
  go_wp2_with fail
  go_ret2
  exact ⟨HB.out, false, 1, rfl, .inl ⟨hno, rfl, rfl⟩⟩
 have hvv : Vld va vd := HT.out.1 rfl
 go_wp2_with fail
 (with_reducible refine (((HCT.out w3).out).mono ?_))
 rintro e w4 ⟨rfl, hb3⟩
 have HXB := Lib.hid (HXB.out.on (below_on H4.out hb3))
 have HKB := Lib.hid (HKB.out.on (below_on H4.out hb3))
 have HB := Lib.hid (below_on HB.out (below_on H4.out hb3))
 clear hb3 k0 k1 H4 HCT
 have k2 := HKB.out.c2
 cases u1
 ·have hno : ¬ (p.Ok ∧ Vld va vd ∧ FrV Nx X ∧ FrV Ny Y) := fun h => by have := HU1.out.2 h.2.2.1; cases this
  go_wp2_with fail
  (with_reducible refine (((HCU1.out _ HB.out).out).mono ?_))
  rintro e w5 ⟨rfl, hb3⟩
  have HB := Lib.hid (below_on HB.out hb3)
  clear hb3 k2
  go_wp2_with fail
  go_ret2
  exact ⟨HB.out, false, 1, rfl, .inl ⟨hno, rfl, rfl⟩⟩
 have hfx : FrV Nx X := HU1.out.1 rfl
 go_wp2_with fail
 (with_reducible refine (((HCU1.out _ HB.out).out).mono ?_))
 rintro e w5 ⟨rfl, hb3⟩
 have HXB := Lib.hid (HXB.out.on hb3)
 have HKB := Lib.hid (HKB.out.on hb3)
 have HB := Lib.hid (below_on HB.out hb3)
 clear hb3 k2 HCU1
 have k3 := HKB.out.c3
 cases u2
 ·have hno : ¬ (p.Ok ∧ Vld va vd ∧ FrV Nx X ∧ FrV Ny Y) := fun h => by have := HU2.out.2 h.2.2.2; cases this
  go_wp2_with fail
  (with_reducible refine (((HCU2.out _ HB.out).out).mono ?_))
  rintro e w6 ⟨rfl, hb3⟩
  have HB := Lib.hid (below_on HB.out hb3)
  clear hb3 k3
  go_wp2_with fail
  go_ret2
  exact ⟨HB.out, false, 1, rfl, .inl ⟨hno, rfl, rfl⟩⟩
 have hfy : FrV Ny Y := HU2.out.1 rfl
 have HFV := Lib.hid (And.intro hvv (And.intro hfx hfy))
 clear hvv hfx hfy
 go_wp2_with fail
 (with_reducible refine (((HCU2.out _ HB.out).out).mono ?_))
 rintro e w6 ⟨rfl, hb3⟩
 have HXB := Lib.hid (HXB.out.on hb3)
 have HKB := Lib.hid (HKB.out.on hb3)
 have HB := Lib.hid (below_on HB.out hb3)
 clear hb3 k3 HCU2 HV HU1 HU2 HT
 have q0 := HXB.out.2.1
 have q1 := HXB.out.2.2
 have k2 := HKB.out.c2
 have k3 := HKB.out.c3
 by_cases hn : Nx = p.n
 case neg =>
  have hne1 : ((Nx : Int) != (p.n : Int)) = true := by simp; omega
  have hne2 : ¬ ((Nx : Int) = (p.n : Int)) := by omega
  go_wp2_with fail
  go_ret2
  exact ⟨HB.out, false, 3, rfl, .inr (.inl ⟨hok, HFV.out.1, HFV.out.2.1, HFV.out.2.2, fun h => hn h.1, rfl, rfl⟩)⟩
 subst hn
 by_cases hm : Ny = p.m
 case neg =>
  have hne1 : ((Ny : Int) != (p.m : Int)) = true := by simp; omega
  have hne2 : ¬ ((Ny : Int) = (p.m : Int)) := by omega
  go_wp2_with fail
  go_ret2
  exact ⟨HB.out, false, 3, rfl, .inr (.inl ⟨hok, HFV.out.1, HFV.out.2.1, HFV.out.2.2, fun h => hm h.2, rfl, rfl⟩)⟩
 subst hm
 go_wp2_with fail
 (with_reducible refine (((HCF.out _ HB.out).out).mono ?_))
 rintro e w7 ⟨hb3, fv, fe, rfl, hfo⟩
 have HFO : Hid (((∃ i, i < p.m ∧ comS (p.Z i) X p.n = (0, 0, 5)) ∧ fv = false ∧ fe = 5) ∨ ((∀ i, i < p.m → (comS (p.Z i) X p.n).2.2 = 0) ∧ (fv = true ↔ FeaR p X) ∧ fe = 0)) := by
  rcases hfo with h | h | h | h
  ·exact absurd ⟨hok, HFV.out.2.1⟩ h.1
  ·exact absurd rfl h.2.2.1
  ·exact .inl h.2.2.2
  ·exact .inr h.2.2.2
 have HXB := Lib.hid (HXB.out.on hb3)
 have HKB := Lib.hid (HKB.out.on hb3)
 have HB := Lib.hid (below_on HB.out hb3)
 clear hb3 HCF hfo q0 q1 k2 k3
 have q0 := HXB.out.2.1
 have q1 := HXB.out.2.2
 have k2 := HKB.out.c2
 go_wp2_with fail
 (with_reducible refine (((HCL.out _ HB.out).out).mono ?_))
 rintro e w8 ⟨hb3, r, rfl, hvo⟩
 have HVO : Hid (r = comS p.C X p.n) := by
  rcases hvo with h | h | h
  ·exact absurd ⟨hok, HFV.out.2.1⟩ h.1
  ·exact absurd rfl h.2.2.1
  ·exact h.2.2.2
 obtain ⟨ra, rd, re⟩ := r
 have HXB := Lib.hid (HXB.out.on hb3)
 have HKB := Lib.hid (HKB.out.on hb3)
 have HB := Lib.hid (below_on HB.out hb3)
 clear hb3 HCL hvo q0 q1 k2
 simp only
 go_upto_region 7 with fail
 obtain ⟨w9, hw9⟩ : ∃ W, W = w8.alloc (Obj.cells #[.int .i64 ra, .int .i64 rd] 27) := ⟨_, rfl⟩
 obtain ⟨vb, hvb⟩ : ∃ x, x = w8.heap.size := ⟨_, rfl⟩
 rw [← hw9, ← hvb]
 have hb9 : Below w8.heap.size w8 w9 := by rw [hw9]; exact (Below.refl _ _).alloc (Nat.le_refl _) _
 have HVB : Hid (Blk w9 vb (.int .i64 ra) (.int .i64 rd)) := by rw [hw9, hvb]; exact Blk.new _ _ _ _
 have HXB := Lib.hid (HXB.out.on hb9)
 have HKB := Lib.hid (HKB.out.on hb9)
 have HB := Lib.hid (below_on HB.out hb9)
 clear hb9 hw9 hvb
 have HRE : Hid (re = 0 ∨ re = 5) := by
  have hvo := HVO.out
  rcases comS_vld (f := p.C) (fun j hj => by have := hok.c j hj; omega) HFV.out.2.1 p.n (Nat.le_refl _) with h | h
  ·rw [h] at hvo; exact .inr (three hvo).2.2
  ·rw [← hvo] at h; exact .inl h.1
 have HFE : Hid (fe = 0 ∨ fe = 5) := by
  rcases HFO.out with h | h
  ·exact .inr h.2.2
  ·exact .inl h.2.2
 have CW := Lib.hid (weighted_any p hok ya yc Y w9 (HP.out.on HB.out) (HY.out.on HB.out) HFV.out.2.2)
 unfold PgD.val at CW
 have q0 := HXB.out.2.1
 have q1 := HXB.out.2.2
 have k3 := HKB.out.c3
 go_wp2_with fail
 (with_reducible refine ((CW.out).mono ?_))
 rintro e wa ⟨hb3, h⟩
 have HXB := Lib.hid (HXB.out.on hb3)
 have HKB := Lib.hid (HKB.out.on hb3)
 have HVB := Lib.hid (HVB.out.on hb3)
 have HB := Lib.hid (below_on HB.out hb3)
 clear hb3 CW q0 q1 k3
 have CO := fun (c : Int) => Lib.hid (or_any wa.heap.size fe re c (wa.alloc (Obj.cells #[.int .i64 fe, .int .i64 re, .int .i64 c] 34)) (by simp [go_sem]) (by simp [go_sem]) (by simp [go_sem]))
 have ho : Below wa.heap.size wa (wa.alloc (Obj.cells #[.int .i64 fe, .int .i64 re, .int .i64 0] 34)) := (Below.refl _ _).alloc (Nat.le_refl _) _
 have ho5 : Below wa.heap.size wa (wa.alloc (Obj.cells #[.int .i64 fe, .int .i64 re, .int .i64 5] 34)) := (Below.refl _ _).alloc (Nat.le_refl _) _
 have HO := Lib.hid (And.intro ho ho5)
 clear ho ho5
 rcases h with ⟨ab, rfl, h1, h2, h3⟩ | ⟨rfl, h1⟩
 case inr =>
  have hno : ¬ ChkF p X Y := fun h => by
   obtain ⟨j, hj, hc⟩ := h1
   have := h.2.2 j hj
   rw [hc] at this; cases this
  have h5 : orE fe re 5 = 5 := by
   rcases orE_two HFE.out HRE.out (.inr rfl : (5 : Int) = 0 ∨ (5 : Int) = 5) with h | h
   ·exact absurd h.2.2.2 (by decide)
   ·exact h.1
  have C5 := CO 5
  rw [h5] at C5
  clear CO h1 h5
  go_wp2_with fail
  (with_reducible refine ((C5.out).mono ?_))
  rintro e wc ⟨rfl, hb3⟩
  have HB := Lib.hid (below_on HB.out (below_on HO.out.2 hb3))
  clear hb3
  go_wp2_with fail
  go_ret2
  exact ⟨HB.out, false, 5, rfl, .inr (.inr (.inl ⟨hok, HFV.out.1, HFV.out.2.1, HFV.out.2.2, rfl, rfl, hno, rfl, rfl⟩))⟩
 have HFT := Lib.hid h2
 have HE := Lib.hid h3
 clear h1 h2 h3
 have C0 := CO 0
 clear CO
 rcases orE_two HFE.out HRE.out (.inl rfl : (0 : Int) = 0 ∨ (0 : Int) = 5) with ⟨h5, hfe, hre, _⟩ | ⟨h5, hne⟩
 case inr =>
  have hno : ¬ ChkF p X Y := fun h => hne ⟨by
   rcases HFO.out with ⟨⟨i, hi, hc⟩, _⟩ | g
   ·have := h.1 i hi
    rw [hc] at this; cases this
   ·exact g.2.2, by have := h.2.1; rw [← HVO.out] at this; exact this, rfl⟩
  rw [h5] at C0
  clear h5 hne
  go_wp2_with fail
  (with_reducible refine ((C0.out).mono ?_))
  rintro e wc ⟨rfl, hb3⟩
  have HB := Lib.hid (below_on HB.out (below_on HO.out.1 hb3))
  clear hb3
  go_wp2_with fail
  go_ret2
  exact ⟨HB.out, false, 5, rfl, .inr (.inr (.inl ⟨hok, HFV.out.1, HFV.out.2.1, HFV.out.2.2, rfl, rfl, hno, rfl, rfl⟩))⟩
 rw [h5] at C0
 clear h5
 have HCF : Hid (ChkF p X Y) := ⟨by
  rcases HFO.out with g | g
  ·exact absurd g.2.2 (by rw [hfe]; decide)
  ·exact g.1, by rw [← HVO.out]; exact hre, HE.out⟩
 have HFF : Hid (fv = true ↔ FeaR p X) := by
  rcases HFO.out with g | g
  ·exact absurd g.2.2 (by rw [hfe]; decide)
  ·exact g.2.1
 have HVO : Hid (comS p.C X p.n = (ra, rd, 0)) := by have := HVO.out; rw [hre] at this; exact this.symm
 subst hfe
 subst hre
 clear HFO HFE HRE
 go_wp2_with fail
 (with_reducible refine ((C0.out).mono ?_))
 rintro e wc ⟨rfl, hb3⟩
 have hbo := below_on HO.out.1 hb3
 have HXB := Lib.hid (HXB.out.on hbo)
 have HKB := Lib.hid (HKB.out.on hbo)
 have HVB := Lib.hid (HVB.out.on hbo)
 have HFT := Lib.hid (HFT.out.on hbo)
 have HB := Lib.hid (below_on HB.out hbo)
 clear hb3 hbo C0 HO
 obtain ⟨v1, hv1⟩ := bool_of (RgS p Y)
 obtain ⟨v2, hv2⟩ := bool_of (∀ j, j < p.n → cmpI (outF (wF p) (fun _ => p.m) Y (p.n + 1) j).1 (outF (wF p) (fun _ => p.m) Y (p.n + 1) j).2 (p.C j) ≤ 0)
 have C1 := fun W (h : Below wc.heap.size wc W) => Lib.hid (rightSigns_any p hok ya yc Y W (HP.out.on (below_on HB.out h)) (HY.out.on (below_on HB.out h)) v1 hv1)
 have C2 := fun W (h : Below wc.heap.size wc W) => Lib.hid (allAtMost_any (some ⟨ab, 0, none⟩) (p.n + 1) (p.n + 1) (outF (wF p) (fun _ => p.m) Y (p.n + 1)) p.ca p.n p.cc p.C W (HFT.out.on h).ifr ((HP.out.on (below_on HB.out h)).cost) (by omega) (by omega) (fun j hj => by unfold outF; rw [if_pos hj]; exact wF_vld hok HFV.out.2.2 (HE.out j hj)) (fun j hj => by have := hok.c j hj; omega) v2 hv2)
 have e2 : v2 = true ↔ ∀ j, j < p.n → cmpI (comS (wF p j) Y p.m).1 (comS (wF p j) Y p.m).2.1 (p.C j) ≤ 0 := by
  rw [hv2]
  constructor
  ·intro h j hj
   have := h j hj
   unfold outF at this
   rwa [if_pos (by omega)] at this
  ·intro h j hj
   unfold outF
   rw [if_pos (by omega)]
   exact h j hj
 have HV1 := Lib.hid hv1
 have HV2 := Lib.hid e2
 unfold PgD.val at C1
 clear hv1 hv2 e2
 have x0 := HFT.out.c0 p.n (by omega)
 have x1 := HFT.out.c1 p.n (by omega)
 unfold outF at x0 x1
 rw [if_pos (by omega)] at x0 x1
 have HTT : Hid ((comS (wF p p.n) Y p.m).2.2 = 0) := HE.out p.n (by omega)
 obtain ⟨a, ha⟩ : ∃ x, (comS (wF p p.n) Y p.m).1 = x := ⟨_, rfl⟩
 obtain ⟨d, hd⟩ : ∃ x, (comS (wF p p.n) Y p.m).2.1 = x := ⟨_, rfl⟩
 simp only [ha, hd] at x0 x1
 have HAD : Hid (comS (wF p p.n) Y p.m = (a, d, 0)) := by show _ = _; rw [← ha, ← hd, ← HTT.out]
 clear ha hd HTT
 have LP0 : Hid (wc.cell? ⟨xb, 0, none⟩ = some (.slice p.ca p.n p.cc) ∧ xb < wc.heap.size) := ⟨HXB.out.2.1, HXB.out.1⟩
 have LP1 : Hid (wc.cell? ⟨xb, 1, none⟩ = some (.slice p.ra p.m p.rc) ∧ xb < wc.heap.size) := ⟨HXB.out.2.2, HXB.out.1⟩
 have LY : Hid (wc.cell? ⟨kb, 3, none⟩ = some (.slice ya p.m yc) ∧ kb < wc.heap.size) := ⟨HKB.out.c3, HKB.out.hb⟩
 have LV0 : Hid (wc.cell? ⟨kb, 0, none⟩ = some (.int .i64 va) ∧ kb < wc.heap.size) := ⟨HKB.out.c0, HKB.out.hb⟩
 have LV1 : Hid (wc.cell? ⟨kb, 1, none⟩ = some (.int .i64 vd) ∧ kb < wc.heap.size) := ⟨HKB.out.c1, HKB.out.hb⟩
 have LT0 : Hid (wc.cell? ⟨ab, p.n * 2, none⟩ = some (.int .i64 a) ∧ ab < wc.heap.size) := ⟨x0, HFT.out.hb⟩
 have LT1 : Hid (wc.cell? ⟨ab, p.n * 2 + 1, none⟩ = some (.int .i64 d) ∧ ab < wc.heap.size) := ⟨x1, HFT.out.hb⟩
 have l1 : (p.n : Int) < ((p.n + 1 : Nat) : Int) := by omega
 have l2 : (p.n : Int) < (p.n : Int) + 1 := by omega
 clear x0 x1 HFT
 go_upto_region 11 with fail
 cases v1
 case false =>
  have HNO : Hid (¬ ChkR p va vd X Y) := fun h => by have := HV1.out.2 h.sg; cases this
  refine wp_region_each (fun L A W => ∃ (v : Nat → Value), A = ⟨#[_, _, _, _, _, _, _, _, _, _, _, _, _, v 13, _, _, _, _, _, _, _, _, _, _, _, _, _, _, _, _, _, _, _, _, _, _, _, _, _, _, _, _, _, _, _, _, _, _, _, _, _, _, _, _, _, _, _, _, _, _, _, _, _, _, _, _, _, _, _, _, _, _, _, _, _, _, _, _, _, _, _, _, _, v 83, v 84, v 85, v 86, v 87, v 88, v 89, v 90, v 91, v 92, v 93, v 94, v 95, v 96, v 97, v 98, v 99, v 100, v 101, v 102, v 103, _, _, _, _, _, _, _, _, _, _], []⟩ ∧ CkAR xb kb ab p.n p.m p.cc p.rc yc p.ca p.ra ya a d va vd wc L v W) (by kernel_rfl) (by kernel_rfl) ⟨fun jz => if jz = 83 then undef else if jz = 84 then undef else if jz = 85 then undef else if jz = 86 then undef else if jz = 87 then undef else if jz = 88 then undef else if jz = 89 then undef else if jz = 90 then undef else if jz = 91 then undef else if jz = 92 then undef else if jz = 93 then undef else if jz = 94 then undef else if jz = 95 then undef else if jz = 96 then undef else if jz = 97 then undef else if jz = 98 then undef else if jz = 99 then undef else if jz = 100 then undef else if jz = 101 then undef else if jz = 102 then undef else if jz = 103 then undef else if jz = 13 then undef else undef, rfl, ⟨Below.drew (Below.refl _ _), Had.none, Had.none, Had.none, Had.none, Had.none, Had.none, Had.none, Had.none, Had.none, Had.none, Had.none, Had.none, Had.none, Had.none, Had.none, Had.none, Had.none, Had.none, Had.none, Had.none, Had.none, Had.none, Had.none, Had.none, Had.none, Had.none, Had.none, Had.none, Had.none, Had.none, Had.none, Had.none, Had.none, Had.none, Had.none, Had.none, Had.none, Had.none, Had.none, Had.none, Had.none, Had.none⟩⟩ (rs := [0, 1, 2, 3, 4, 5, 6, 7, 8, 9, 10, 11, 12, 13, 14, 15, 16, 17, 18, 19, 20, 21]) (by kernel_rfl) ?_ ?_
  ·refine EachOf.cons [] rfl (by kernel_rfl) ?_ ?_
   ·rintro L A W ⟨v, rfl, hR⟩ hi hw K hK
    have q0 := (hR.st.cell (p := ⟨xb, 0, none⟩) LP0.out.2).trans LP0.out.1
    have q1 := (hR.st.cell (p := ⟨xb, 1, none⟩) LP1.out.2).trans LP1.out.1
    go_simp
    refine hK.out _ _ ?_
    exact ⟨(fun jz => if jz = 83 then .agg #[.slice p.ca p.n p.cc, .slice p.ra p.m p.rc] else v jz), rfl, ⟨hR.st, (fun _ => rfl), hR.f1.k, hR.f2.k, hR.f3.k, hR.f4.k, hR.f5.k, hR.f6.k, hR.f7.k, hR.f8.k, hR.f9.k, hR.f10.k, hR.f11.k, hR.f12.k, hR.f13.k, hR.f14.k, hR.f15.k, hR.f16.k, hR.f17.k, hR.f18.k, hR.f19.k, hR.f20.k, hR.f21.k, hR.w2.o, hR.w3.o, hR.w4.o, hR.w5.o, hR.w6.o, hR.w7.o, hR.w8.o, hR.w9.o, hR.w10.o, hR.w11.o, hR.w12.o, hR.w13.o, hR.w14.o, hR.w15.o, hR.w16.o, hR.w17.o, hR.w18.o, hR.w19.o, hR.w20.o, hR.w21.o⟩⟩
   refine EachOf.cons [] rfl (by kernel_rfl) ?_ ?_
   ·rintro L A W ⟨v, rfl, hR⟩ hi hw K hK
    go_simp
    refine hK.out _ _ ?_
    exact ⟨(fun jz => if jz = 84 then .pointer (some ⟨kb, 3, none⟩) else v jz), rfl, ⟨hR.st, hR.f0.k, (fun _ => rfl), hR.f2.k, hR.f3.k, hR.f4.k, hR.f5.k, hR.f6.k, hR.f7.k, hR.f8.k, hR.f9.k, hR.f10.k, hR.f11.k, hR.f12.k, hR.f13.k, hR.f14.k, hR.f15.k, hR.f16.k, hR.f17.k, hR.f18.k, hR.f19.k, hR.f20.k, hR.f21.k, hR.w2.o, hR.w3.o, hR.w4.o, hR.w5.o, hR.w6.o, hR.w7.o, hR.w8.o, hR.w9.o, hR.w10.o, hR.w11.o, hR.w12.o, hR.w13.o, hR.w14.o, hR.w15.o, hR.w16.o, hR.w17.o, hR.w18.o, hR.w19.o, hR.w20.o, hR.w21.o⟩⟩
   refine EachOf.cons [1] rfl (by kernel_rfl) ?_ ?_
   ·rintro L A W ⟨v, rfl, hR⟩ hi hw K hK
    have e1 := hR.f1 (hw 1 (by simp))
    simp only [e1]
    clear e1
    have q0 := (hR.st.cell (p := ⟨kb, 3, none⟩) LY.out.2).trans LY.out.1
    go_simp
    refine hK.out _ _ ?_
    exact ⟨(fun jz => if jz = 84 then .pointer (some ⟨kb, 3, none⟩) else if jz = 85 then .slice ya p.m yc else v jz), rfl, ⟨hR.st, hR.f0.k, (fun _ => rfl), (fun _ => rfl), hR.f3.k, hR.f4.k, hR.f5.k, hR.f6.k, hR.f7.k, hR.f8.k, hR.f9.k, hR.f10.k, hR.f11.k, hR.f12.k, hR.f13.k, hR.f14.k, hR.f15.k, hR.f16.k, hR.f17.k, hR.f18.k, hR.f19.k, hR.f20.k, hR.f21.k, (fun _ j hj => upd_on (hw j hj)), hR.w3.o, hR.w4.o, hR.w5.o, hR.w6.o, hR.w7.o, hR.w8.o, hR.w9.o, hR.w10.o, hR.w11.o, hR.w12.o, hR.w13.o, hR.w14.o, hR.w15.o, hR.w16.o, hR.w17.o, hR.w18.o, hR.w19.o, hR.w20.o, hR.w21.o⟩⟩
   refine EachOf.cons [0, 2] rfl (by kernel_rfl) ?_ ?_
   ·rintro L A W ⟨v, rfl, hR⟩ hi hw K hK
    have e0 := hR.f0 (hw 0 (by simp))
    have e2 := hR.f2 (hw 2 (by simp))
    simp only [e0, e2]
    clear e0 e2
    go_simp
    go_at_call 32
    (with_reducible refine (((C1 W (hR.st))).out.mono ?_))
    rintro e w2 ⟨rfl, hb⟩
    go_simp
    refine hK.out _ _ ?_
    exact ⟨(fun jz => if jz = 83 then .agg #[.slice p.ca p.n p.cc, .slice p.ra p.m p.rc] else if jz = 85 then .slice ya p.m yc else if jz = 86 then .bool false else v jz), rfl, ⟨below_on hR.st hb, (fun _ => rfl), hR.f1.k, (fun _ => rfl), (fun _ => rfl), hR.f4.k, hR.f5.k, hR.f6.k, hR.f7.k, hR.f8.k, hR.f9.k, hR.f10.k, hR.f11.k, hR.f12.k, hR.f13.k, hR.f14.k, hR.f15.k, hR.f16.k, hR.f17.k, hR.f18.k, hR.f19.k, hR.f20.k, hR.f21.k, hR.w2.o, (fun _ j hj => upd_on (hw j hj)), hR.w4.o, hR.w5.o, hR.w6.o, hR.w7.o, hR.w8.o, hR.w9.o, hR.w10.o, hR.w11.o, hR.w12.o, hR.w13.o, hR.w14.o, hR.w15.o, hR.w16.o, hR.w17.o, hR.w18.o, hR.w19.o, hR.w20.o, hR.w21.o⟩⟩
   refine EachOf.cons [3] rfl (by kernel_rfl) ?_ ?_
   ·rintro L A W ⟨v, rfl, hR⟩ hi hw K hK
    have e3 := hR.f3 (hw 3 (by simp))
    simp only [e3]
    clear e3
    go_simp
    refine hK.out _ _ ?_
    exact ⟨(fun jz => if jz = 86 then .bool false else if jz = 87 then .bool false else v jz), rfl, ⟨hR.st, hR.f0.k, hR.f1.k, hR.f2.k, (fun _ => rfl), (fun _ => rfl), hR.f5.k, hR.f6.k, hR.f7.k, hR.f8.k, hR.f9.k, hR.f10.k, hR.f11.k, hR.f12.k, hR.f13.k, hR.f14.k, hR.f15.k, hR.f16.k, hR.f17.k, hR.f18.k, hR.f19.k, hR.f20.k, hR.f21.k, hR.w2.o, hR.w3.o, (fun _ j hj => upd_on (hw j hj)), hR.w5.o, hR.w6.o, hR.w7.o, hR.w8.o, hR.w9.o, hR.w10.o, hR.w11.o, hR.w12.o, hR.w13.o, hR.w14.o, hR.w15.o, hR.w16.o, hR.w17.o, hR.w18.o, hR.w19.o, hR.w20.o, hR.w21.o⟩⟩
   refine EachOf.cons [4] rfl (by kernel_rfl) ?_ ?_
   ·rintro L A W ⟨v, rfl, hR⟩ hi hw K hK
    have e4 := hR.f4 (hw 4 (by simp))
    simp only [e4]
    clear e4
    go_simp
    refine hK.out _ _ ?_
    exact ⟨(fun jz => if jz = 87 then .bool false else if jz = 88 then undef else v jz), rfl, ⟨hR.st, hR.f0.k, hR.f1.k, hR.f2.k, hR.f3.k, (fun _ => rfl), (fun _ => rfl), hR.f6.k, hR.f7.k, hR.f8.k, hR.f9.k, hR.f10.k, hR.f11.k, hR.f12.k, hR.f13.k, hR.f14.k, hR.f15.k, hR.f16.k, hR.f17.k, hR.f18.k, hR.f19.k, hR.f20.k, hR.f21.k, hR.w2.o, hR.w3.o, hR.w4.o, (fun _ j hj => upd_on (hw j hj)), hR.w6.o, hR.w7.o, hR.w8.o, hR.w9.o, hR.w10.o, hR.w11.o, hR.w12.o, hR.w13.o, hR.w14.o, hR.w15.o, hR.w16.o, hR.w17.o, hR.w18.o, hR.w19.o, hR.w20.o, hR.w21.o⟩⟩
   refine EachOf.cons [4] rfl (by kernel_rfl) ?_ ?_
   ·rintro L A W ⟨v, rfl, hR⟩ hi hw K hK
    have e4 := hR.f4 (hw 4 (by simp))
    simp only [e4]
    clear e4
    go_simp
    refine hK.out _ _ ?_
    exact ⟨(fun jz => if jz = 87 then .bool false else if jz = 89 then undef else v jz), rfl, ⟨hR.st, hR.f0.k, hR.f1.k, hR.f2.k, hR.f3.k, (fun _ => rfl), hR.f5.k, (fun _ => rfl), hR.f7.k, hR.f8.k, hR.f9.k, hR.f10.k, hR.f11.k, hR.f12.k, hR.f13.k, hR.f14.k, hR.f15.k, hR.f16.k, hR.f17.k, hR.f18.k, hR.f19.k, hR.f20.k, hR.f21.k, hR.w2.o, hR.w3.o, hR.w4.o, hR.w5.o, (fun _ j hj => upd_on (hw j hj)), hR.w7.o, hR.w8.o, hR.w9.o, hR.w10.o, hR.w11.o, hR.w12.o, hR.w13.o, hR.w14.o, hR.w15.o, hR.w16.o, hR.w17.o, hR.w18.o, hR.w19.o, hR.w20.o, hR.w21.o⟩⟩
   refine EachOf.cons [4, 6] rfl (by kernel_rfl) ?_ ?_
   ·rintro L A W ⟨v, rfl, hR⟩ hi hw K hK
    have e6 := hR.f6 (hw 6 (by simp))
    have e4 := hR.f4 (hw 4 (by simp))
    simp only [e6, e4]
    clear e6 e4
    go_simp
    refine hK.out _ _ ?_
    exact ⟨(fun jz => if jz = 89 then undef else if jz = 87 then .bool false else if jz = 90 then undef else v jz), rfl, ⟨hR.st, hR.f0.k, hR.f1.k, hR.f2.k, hR.f3.k, (fun _ => rfl), hR.f5.k, (fun _ => rfl), (fun _ => rfl), hR.f8.k, hR.f9.k, hR.f10.k, hR.f11.k, hR.f12.k, hR.f13.k, hR.f14.k, hR.f15.k, hR.f16.k, hR.f17.k, hR.f18.k, hR.f19.k, hR.f20.k, hR.f21.k, hR.w2.o, hR.w3.o, hR.w4.o, hR.w5.o, hR.w6.o, (fun _ j hj => upd_on (hw j hj)), hR.w8.o, hR.w9.o, hR.w10.o, hR.w11.o, hR.w12.o, hR.w13.o, hR.w14.o, hR.w15.o, hR.w16.o, hR.w17.o, hR.w18.o, hR.w19.o, hR.w20.o, hR.w21.o⟩⟩
   refine EachOf.cons [4, 5, 7] rfl (by kernel_rfl) ?_ ?_
   ·rintro L A W ⟨v, rfl, hR⟩ hi hw K hK
    have e5 := hR.f5 (hw 5 (by simp))
    have e7 := hR.f7 (hw 7 (by simp))
    have e4 := hR.f4 (hw 4 (by simp))
    simp only [e5, e7, e4]
    clear e5 e7 e4
    go_simp
    refine hK.out _ _ ?_
    exact ⟨(fun jz => if jz = 88 then undef else if jz = 90 then undef else if jz = 87 then .bool false else if jz = 91 then undef else v jz), rfl, ⟨hR.st, hR.f0.k, hR.f1.k, hR.f2.k, hR.f3.k, (fun _ => rfl), (fun _ => rfl), hR.f6.k, (fun _ => rfl), (fun _ => rfl), hR.f9.k, hR.f10.k, hR.f11.k, hR.f12.k, hR.f13.k, hR.f14.k, hR.f15.k, hR.f16.k, hR.f17.k, hR.f18.k, hR.f19.k, hR.f20.k, hR.f21.k, hR.w2.o, hR.w3.o, hR.w4.o, hR.w5.o, hR.w6.o, hR.w7.o, (fun _ j hj => upd_on (hw j hj)), hR.w9.o, hR.w10.o, hR.w11.o, hR.w12.o, hR.w13.o, hR.w14.o, hR.w15.o, hR.w16.o, hR.w17.o, hR.w18.o, hR.w19.o, hR.w20.o, hR.w21.o⟩⟩
   refine EachOf.cons [4, 8] rfl (by kernel_rfl) ?_ ?_
   ·rintro L A W ⟨v, rfl, hR⟩ hi hw K hK
    have e4 := hR.f4 (hw 4 (by simp))
    have e8 := hR.f8 (hw 8 (by simp))
    simp only [e4, e8]
    clear e4 e8
    go_simp
    refine hK.out _ _ ?_
    exact ⟨(fun jz => if jz = 87 then .bool false else if jz = 91 then undef else if jz = 92 then .bool false else v jz), rfl, ⟨hR.st, hR.f0.k, hR.f1.k, hR.f2.k, hR.f3.k, (fun _ => rfl), hR.f5.k, hR.f6.k, hR.f7.k, (fun _ => rfl), (fun _ => rfl), hR.f10.k, hR.f11.k, hR.f12.k, hR.f13.k, hR.f14.k, hR.f15.k, hR.f16.k, hR.f17.k, hR.f18.k, hR.f19.k, hR.f20.k, hR.f21.k, hR.w2.o, hR.w3.o, hR.w4.o, hR.w5.o, hR.w6.o, hR.w7.o, hR.w8.o, (fun _ j hj => upd_on (hw j hj)), hR.w10.o, hR.w11.o, hR.w12.o, hR.w13.o, hR.w14.o, hR.w15.o, hR.w16.o, hR.w17.o, hR.w18.o, hR.w19.o, hR.w20.o, hR.w21.o⟩⟩
   refine EachOf.cons [9] rfl (by kernel_rfl) ?_ ?_
   ·rintro L A W ⟨v, rfl, hR⟩ hi hw K hK
    have e9 := hR.f9 (hw 9 (by simp))
    simp only [e9]
    clear e9
    go_simp
    refine hK.out _ _ ?_
    exact ⟨(fun jz => if jz = 92 then .bool false else if jz = 93 then .bool false else v jz), rfl, ⟨hR.st, hR.f0.k, hR.f1.k, hR.f2.k, hR.f3.k, hR.f4.k, hR.f5.k, hR.f6.k, hR.f7.k, hR.f8.k, (fun _ => rfl), (fun _ => rfl), hR.f11.k, hR.f12.k, hR.f13.k, hR.f14.k, hR.f15.k, hR.f16.k, hR.f17.k, hR.f18.k, hR.f19.k, hR.f20.k, hR.f21.k, hR.w2.o, hR.w3.o, hR.w4.o, hR.w5.o, hR.w6.o, hR.w7.o, hR.w8.o, hR.w9.o, (fun _ j hj => upd_on (hw j hj)), hR.w11.o, hR.w12.o, hR.w13.o, hR.w14.o, hR.w15.o, hR.w16.o, hR.w17.o, hR.w18.o, hR.w19.o, hR.w20.o, hR.w21.o⟩⟩
   refine EachOf.cons [10] rfl (by kernel_rfl) ?_ ?_
   ·rintro L A W ⟨v, rfl, hR⟩ hi hw K hK
    have e10 := hR.f10 (hw 10 (by simp))
    simp only [e10]
    clear e10
    go_simp
    refine hK.out _ _ ?_
    exact ⟨(fun jz => if jz = 93 then .bool false else if jz = 94 then undef else v jz), rfl, ⟨hR.st, hR.f0.k, hR.f1.k, hR.f2.k, hR.f3.k, hR.f4.k, hR.f5.k, hR.f6.k, hR.f7.k, hR.f8.k, hR.f9.k, (fun _ => rfl), (fun _ => rfl), hR.f12.k, hR.f13.k, hR.f14.k, hR.f15.k, hR.f16.k, hR.f17.k, hR.f18.k, hR.f19.k, hR.f20.k, hR.f21.k, hR.w2.o, hR.w3.o, hR.w4.o, hR.w5.o, hR.w6.o, hR.w7.o, hR.w8.o, hR.w9.o, hR.w10.o, (fun _ j hj => upd_on (hw j hj)), hR.w12.o, hR.w13.o, hR.w14.o, hR.w15.o, hR.w16.o, hR.w17.o, hR.w18.o, hR.w19.o, hR.w20.o, hR.w21.o⟩⟩
   refine EachOf.cons [10] rfl (by kernel_rfl) ?_ ?_
   ·rintro L A W ⟨v, rfl, hR⟩ hi hw K hK
    have e10 := hR.f10 (hw 10 (by simp))
    simp only [e10]
    clear e10
    go_simp
    refine hK.out _ _ ?_
    exact ⟨(fun jz => if jz = 93 then .bool false else if jz = 95 then undef else v jz), rfl, ⟨hR.st, hR.f0.k, hR.f1.k, hR.f2.k, hR.f3.k, hR.f4.k, hR.f5.k, hR.f6.k, hR.f7.k, hR.f8.k, hR.f9.k, (fun _ => rfl), hR.f11.k, (fun _ => rfl), hR.f13.k, hR.f14.k, hR.f15.k, hR.f16.k, hR.f17.k, hR.f18.k, hR.f19.k, hR.f20.k, hR.f21.k, hR.w2.o, hR.w3.o, hR.w4.o, hR.w5.o, hR.w6.o, hR.w7.o, hR.w8.o, hR.w9.o, hR.w10.o, hR.w11.o, (fun _ j hj => upd_on (hw j hj)), hR.w13.o, hR.w14.o, hR.w15.o, hR.w16.o, hR.w17.o, hR.w18.o, hR.w19.o, hR.w20.o, hR.w21.o⟩⟩
   refine EachOf.cons [10, 12] rfl (by kernel_rfl) ?_ ?_
   ·rintro L A W ⟨v, rfl, hR⟩ hi hw K hK
    have e12 := hR.f12 (hw 12 (by simp))
    have e10 := hR.f10 (hw 10 (by simp))
    simp only [e12, e10]
    clear e12 e10
    go_simp
    refine hK.out _ _ ?_
    exact ⟨(fun jz => if jz = 95 then undef else if jz = 93 then .bool false else if jz = 96 then undef else v jz), rfl, ⟨hR.st, hR.f0.k, hR.f1.k, hR.f2.k, hR.f3.k, hR.f4.k, hR.f5.k, hR.f6.k, hR.f7.k, hR.f8.k, hR.f9.k, (fun _ => rfl), hR.f11.k, (fun _ => rfl), (fun _ => rfl), hR.f14.k, hR.f15.k, hR.f16.k, hR.f17.k, hR.f18.k, hR.f19.k, hR.f20.k, hR.f21.k, hR.w2.o, hR.w3.o, hR.w4.o, hR.w5.o, hR.w6.o, hR.w7.o, hR.w8.o, hR.w9.o, hR.w10.o, hR.w11.o, hR.w12.o, (fun _ j hj => upd_on (hw j hj)), hR.w14.o, hR.w15.o, hR.w16.o, hR.w17.o, hR.w18.o, hR.w19.o, hR.w20.o, hR.w21.o⟩⟩
   refine EachOf.cons [10, 13] rfl (by kernel_rfl) ?_ ?_
   ·rintro L A W ⟨v, rfl, hR⟩ hi hw K hK
    have e13 := hR.f13 (hw 13 (by simp))
    have e10 := hR.f10 (hw 10 (by simp))
    simp only [e13, e10]
    clear e13 e10
    go_simp
    refine hK.out _ _ ?_
    exact ⟨(fun jz => if jz = 96 then undef else if jz = 93 then .bool false else if jz = 97 then undef else v jz), rfl, ⟨hR.st, hR.f0.k, hR.f1.k, hR.f2.k, hR.f3.k, hR.f4.k, hR.f5.k, hR.f6.k, hR.f7.k, hR.f8.k, hR.f9.k, (fun _ => rfl), hR.f11.k, hR.f12.k, (fun _ => rfl), (fun _ => rfl), hR.f15.k, hR.f16.k, hR.f17.k, hR.f18.k, hR.f19.k, hR.f20.k, hR.f21.k, hR.w2.o, hR.w3.o, hR.w4.o, hR.w5.o, hR.w6.o, hR.w7.o, hR.w8.o, hR.w9.o, hR.w10.o, hR.w11.o, hR.w12.o, hR.w13.o, (fun _ j hj => upd_on (hw j hj)), hR.w15.o, hR.w16.o, hR.w17.o, hR.w18.o, hR.w19.o, hR.w20.o, hR.w21.o⟩⟩
   refine EachOf.cons [10, 11, 14] rfl (by kernel_rfl) ?_ ?_
   ·rintro L A W ⟨v, rfl, hR⟩ hi hw K hK
    have e11 := hR.f11 (hw 11 (by simp))
    have e14 := hR.f14 (hw 14 (by simp))
    have e10 := hR.f10 (hw 10 (by simp))
    simp only [e11, e14, e10]
    clear e11 e14 e10
    go_simp
    refine hK.out _ _ ?_
    exact ⟨(fun jz => if jz = 94 then undef else if jz = 97 then undef else if jz = 93 then .bool false else if jz = 98 then undef else v jz), rfl, ⟨hR.st, hR.f0.k, hR.f1.k, hR.f2.k, hR.f3.k, hR.f4.k, hR.f5.k, hR.f6.k, hR.f7.k, hR.f8.k, hR.f9.k, (fun _ => rfl), (fun _ => rfl), hR.f12.k, hR.f13.k, (fun _ => rfl), (fun _ => rfl), hR.f16.k, hR.f17.k, hR.f18.k, hR.f19.k, hR.f20.k, hR.f21.k, hR.w2.o, hR.w3.o, hR.w4.o, hR.w5.o, hR.w6.o, hR.w7.o, hR.w8.o, hR.w9.o, hR.w10.o, hR.w11.o, hR.w12.o, hR.w13.o, hR.w14.o, (fun _ j hj => upd_on (hw j hj)), hR.w16.o, hR.w17.o, hR.w18.o, hR.w19.o, hR.w20.o, hR.w21.o⟩⟩
   refine EachOf.cons [10, 15] rfl (by kernel_rfl) ?_ ?_
   ·rintro L A W ⟨v, rfl, hR⟩ hi hw K hK
    have e15 := hR.f15 (hw 15 (by simp))
    have e10 := hR.f10 (hw 10 (by simp))
    simp only [e15, e10]
    clear e15 e10
    go_simp
    refine hK.out _ _ ?_
    exact ⟨(fun jz => if jz = 98 then undef else if jz = 93 then .bool false else if jz = 99 then undef else v jz), rfl, ⟨hR.st, hR.f0.k, hR.f1.k, hR.f2.k, hR.f3.k, hR.f4.k, hR.f5.k, hR.f6.k, hR.f7.k, hR.f8.k, hR.f9.k, (fun _ => rfl), hR.f11.k, hR.f12.k, hR.f13.k, hR.f14.k, (fun _ => rfl), (fun _ => rfl), hR.f17.k, hR.f18.k, hR.f19.k, hR.f20.k, hR.f21.k, hR.w2.o, hR.w3.o, hR.w4.o, hR.w5.o, hR.w6.o, hR.w7.o, hR.w8.o, hR.w9.o, hR.w10.o, hR.w11.o, hR.w12.o, hR.w13.o, hR.w14.o, hR.w15.o, (fun _ j hj => upd_on (hw j hj)), hR.w17.o, hR.w18.o, hR.w19.o, hR.w20.o, hR.w21.o⟩⟩
   refine EachOf.cons [10] rfl (by kernel_rfl) ?_ ?_
   ·rintro L A W ⟨v, rfl, hR⟩ hi hw K hK
    have e10 := hR.f10 (hw 10 (by simp))
    simp only [e10]
    clear e10
    go_simp
    refine hK.out _ _ ?_
    exact ⟨(fun jz => if jz = 93 then .bool false else if jz = 100 then undef else v jz), rfl, ⟨hR.st, hR.f0.k, hR.f1.k, hR.f2.k, hR.f3.k, hR.f4.k, hR.f5.k, hR.f6.k, hR.f7.k, hR.f8.k, hR.f9.k, (fun _ => rfl), hR.f11.k, hR.f12.k, hR.f13.k, hR.f14.k, hR.f15.k, hR.f16.k, (fun _ => rfl), hR.f18.k, hR.f19.k, hR.f20.k, hR.f21.k, hR.w2.o, hR.w3.o, hR.w4.o, hR.w5.o, hR.w6.o, hR.w7.o, hR.w8.o, hR.w9.o, hR.w10.o, hR.w11.o, hR.w12.o, hR.w13.o, hR.w14.o, hR.w15.o, hR.w16.o, (fun _ j hj => upd_on (hw j hj)), hR.w18.o, hR.w19.o, hR.w20.o, hR.w21.o⟩⟩
   refine EachOf.cons [10, 17] rfl (by kernel_rfl) ?_ ?_
   ·rintro L A W ⟨v, rfl, hR⟩ hi hw K hK
    have e17 := hR.f17 (hw 17 (by simp))
    have e10 := hR.f10 (hw 10 (by simp))
    simp only [e17, e10]
    clear e17 e10
    go_simp
    refine hK.out _ _ ?_
    exact ⟨(fun jz => if jz = 100 then undef else if jz = 93 then .bool false else if jz = 101 then undef else v jz), rfl, ⟨hR.st, hR.f0.k, hR.f1.k, hR.f2.k, hR.f3.k, hR.f4.k, hR.f5.k, hR.f6.k, hR.f7.k, hR.f8.k, hR.f9.k, (fun _ => rfl), hR.f11.k, hR.f12.k, hR.f13.k, hR.f14.k, hR.f15.k, hR.f16.k, (fun _ => rfl), (fun _ => rfl), hR.f19.k, hR.f20.k, hR.f21.k, hR.w2.o, hR.w3.o, hR.w4.o, hR.w5.o, hR.w6.o, hR.w7.o, hR.w8.o, hR.w9.o, hR.w10.o, hR.w11.o, hR.w12.o, hR.w13.o, hR.w14.o, hR.w15.o, hR.w16.o, hR.w17.o, (fun _ j hj => upd_on (hw j hj)), hR.w19.o, hR.w20.o, hR.w21.o⟩⟩
   refine EachOf.cons [10, 16, 18] rfl (by kernel_rfl) ?_ ?_
   ·rintro L A W ⟨v, rfl, hR⟩ hi hw K hK
    have e16 := hR.f16 (hw 16 (by simp))
    have e18 := hR.f18 (hw 18 (by simp))
    have e10 := hR.f10 (hw 10 (by simp))
    simp only [e16, e18, e10]
    clear e16 e18 e10
    go_simp
    refine hK.out _ _ ?_
    exact ⟨(fun jz => if jz = 99 then undef else if jz = 101 then undef else if jz = 93 then .bool false else if jz = 102 then undef else v jz), rfl, ⟨hR.st, hR.f0.k, hR.f1.k, hR.f2.k, hR.f3.k, hR.f4.k, hR.f5.k, hR.f6.k, hR.f7.k, hR.f8.k, hR.f9.k, (fun _ => rfl), hR.f11.k, hR.f12.k, hR.f13.k, hR.f14.k, hR.f15.k, (fun _ => rfl), hR.f17.k, (fun _ => rfl), (fun _ => rfl), hR.f20.k, hR.f21.k, hR.w2.o, hR.w3.o, hR.w4.o, hR.w5.o, hR.w6.o, hR.w7.o, hR.w8.o, hR.w9.o, hR.w10.o, hR.w11.o, hR.w12.o, hR.w13.o, hR.w14.o, hR.w15.o, hR.w16.o, hR.w17.o, hR.w18.o, (fun _ j hj => upd_on (hw j hj)), hR.w20.o, hR.w21.o⟩⟩
   refine EachOf.cons [10, 19] rfl (by kernel_rfl) ?_ ?_
   ·rintro L A W ⟨v, rfl, hR⟩ hi hw K hK
    have e10 := hR.f10 (hw 10 (by simp))
    have e19 := hR.f19 (hw 19 (by simp))
    simp only [e10, e19]
    clear e10 e19
    go_simp
    refine hK.out _ _ ?_
    exact ⟨(fun jz => if jz = 93 then .bool false else if jz = 102 then undef else if jz = 103 then .bool false else v jz), rfl, ⟨hR.st, hR.f0.k, hR.f1.k, hR.f2.k, hR.f3.k, hR.f4.k, hR.f5.k, hR.f6.k, hR.f7.k, hR.f8.k, hR.f9.k, (fun _ => rfl), hR.f11.k, hR.f12.k, hR.f13.k, hR.f14.k, hR.f15.k, hR.f16.k, hR.f17.k, hR.f18.k, (fun _ => rfl), (fun _ => rfl), hR.f21.k, hR.w2.o, hR.w3.o, hR.w4.o, hR.w5.o, hR.w6.o, hR.w7.o, hR.w8.o, hR.w9.o, hR.w10.o, hR.w11.o, hR.w12.o, hR.w13.o, hR.w14.o, hR.w15.o, hR.w16.o, hR.w17.o, hR.w18.o, hR.w19.o, (fun _ j hj => upd_on (hw j hj)), hR.w21.o⟩⟩
   refine EachOf.cons [20] rfl (by kernel_rfl) ?_ ?_
   ·rintro L A W ⟨v, rfl, hR⟩ hi hw K hK
    have e20 := hR.f20 (hw 20 (by simp))
    simp only [e20]
    clear e20
    go_simp
    refine hK.out _ _ ?_
    exact ⟨(fun jz => if jz = 103 then .bool false else if jz = 13 then .bool false else v jz), rfl, ⟨hR.st, hR.f0.k, hR.f1.k, hR.f2.k, hR.f3.k, hR.f4.k, hR.f5.k, hR.f6.k, hR.f7.k, hR.f8.k, hR.f9.k, hR.f10.k, hR.f11.k, hR.f12.k, hR.f13.k, hR.f14.k, hR.f15.k, hR.f16.k, hR.f17.k, hR.f18.k, hR.f19.k, (fun _ => rfl), (fun _ => rfl), hR.w2.o, hR.w3.o, hR.w4.o, hR.w5.o, hR.w6.o, hR.w7.o, hR.w8.o, hR.w9.o, hR.w10.o, hR.w11.o, hR.w12.o, hR.w13.o, hR.w14.o, hR.w15.o, hR.w16.o, hR.w17.o, hR.w18.o, hR.w19.o, hR.w20.o, (fun _ j hj => upd_on (hw j hj))⟩⟩
   exact EachOf.nil
  rintro L A W ⟨v, rfl, hR⟩ hL
  have e21 := hR.f21 (hL 21 (by simp))
  simp only [e21]
  have HVB := Lib.hid (HVB.out.on hR.st)
  have HKB := Lib.hid (HKB.out.on hR.st)
  have HB := Lib.hid (below_on HB.out hR.st)
  clear e21 hR hL C1 C2 LP0 LP1 LY LV0 LV1 LT0 LT1 HXB
  obtain ⟨_, b0, b1⟩ := HVB.out
  have k0 := HKB.out.c0
  have k1 := HKB.out.c1
  cases fv
  ·go_wp2_with fail
   go_ret2
   (first | exact ⟨HB.out, false, 0, rfl, .inr (.inr (.inr ⟨hok, HFV.out.1, HFV.out.2.1, HFV.out.2.2, rfl, rfl, HCF.out, ⟨fun h => (by cases h), fun h => absurd h HNO.out⟩, rfl⟩))⟩ | exact ⟨HB.out, .inl ⟨0, rfl, .inr (.inr (.inr ⟨hok, HFV.out.1, HFV.out.2.1, HFV.out.2.2, rfl, rfl, HCF.out, ⟨fun h => (by cases h), fun h => absurd h HNO.out⟩, rfl⟩))⟩⟩)
  ·by_cases h1 : ra = va
   ·subst h1
    by_cases h2 : rd = vd
    ·subst h2
     go_wp2_with fail
     go_ret2
     (first | exact ⟨HB.out, false, 0, rfl, .inr (.inr (.inr ⟨hok, HFV.out.1, HFV.out.2.1, HFV.out.2.2, rfl, rfl, HCF.out, ⟨fun h => (by cases h), fun h => absurd h HNO.out⟩, rfl⟩))⟩ | exact ⟨HB.out, .inl ⟨0, rfl, .inr (.inr (.inr ⟨hok, HFV.out.1, HFV.out.2.1, HFV.out.2.2, rfl, rfl, HCF.out, ⟨fun h => (by cases h), fun h => absurd h HNO.out⟩, rfl⟩))⟩⟩)
    ·go_wp2_with fail
     go_ret2
     (first | exact ⟨HB.out, false, 0, rfl, .inr (.inr (.inr ⟨hok, HFV.out.1, HFV.out.2.1, HFV.out.2.2, rfl, rfl, HCF.out, ⟨fun h => (by cases h), fun h => absurd h HNO.out⟩, rfl⟩))⟩ | exact ⟨HB.out, .inl ⟨0, rfl, .inr (.inr (.inr ⟨hok, HFV.out.1, HFV.out.2.1, HFV.out.2.2, rfl, rfl, HCF.out, ⟨fun h => (by cases h), fun h => absurd h HNO.out⟩, rfl⟩))⟩⟩)
   ·go_wp2_with fail
    go_ret2
    (first | exact ⟨HB.out, false, 0, rfl, .inr (.inr (.inr ⟨hok, HFV.out.1, HFV.out.2.1, HFV.out.2.2, rfl, rfl, HCF.out, ⟨fun h => (by cases h), fun h => absurd h HNO.out⟩, rfl⟩))⟩ | exact ⟨HB.out, .inl ⟨0, rfl, .inr (.inr (.inr ⟨hok, HFV.out.1, HFV.out.2.1, HFV.out.2.2, rfl, rfl, HCF.out, ⟨fun h => (by cases h), fun h => absurd h HNO.out⟩, rfl⟩))⟩⟩)
 cases v2
 case false =>
  have HNO : Hid (¬ ChkR p va vd X Y) := fun h => by have := HV2.out.2 h.col; cases this
  refine wp_region_each (fun L A W => ∃ (v : Nat → Value), A = ⟨#[_, _, _, _, _, _, _, _, _, _, _, _, _, v 13, _, _, _, _, _, _, _, _, _, _, _, _, _, _, _, _, _, _, _, _, _, _, _, _, _, _, _, _, _, _, _, _, _, _, _, _, _, _, _, _, _, _, _, _, _, _, _, _, _, _, _, _, _, _, _, _, _, _, _, _, _, _, _, _, _, _, _, _, _, v 83, v 84, v 85, v 86, v 87, v 88, v 89, v 90, v 91, v 92, v 93, v 94, v 95, v 96, v 97, v 98, v 99, v 100, v 101, v 102, v 103, _, _, _, _, _, _, _, _, _, _], []⟩ ∧ CkBR xb kb ab p.n p.m p.cc p.rc yc p.ca p.ra ya a d va vd wc L v W) (by kernel_rfl) (by kernel_rfl) ⟨fun jz => if jz = 83 then undef else if jz = 84 then undef else if jz = 85 then undef else if jz = 86 then undef else if jz = 87 then undef else if jz = 88 then undef else if jz = 89 then undef else if jz = 90 then undef else if jz = 91 then undef else if jz = 92 then undef else if jz = 93 then undef else if jz = 94 then undef else if jz = 95 then undef else if jz = 96 then undef else if jz = 97 then undef else if jz = 98 then undef else if jz = 99 then undef else if jz = 100 then undef else if jz = 101 then undef else if jz = 102 then undef else if jz = 103 then undef else if jz = 13 then undef else undef, rfl, ⟨Below.drew (Below.refl _ _), Had.none, Had.none, Had.none, Had.none, Had.none, Had.none, Had.none, Had.none, Had.none, Had.none, Had.none, Had.none, Had.none, Had.none, Had.none, Had.none, Had.none, Had.none, Had.none, Had.none, Had.none, Had.none, Had.none, Had.none, Had.none, Had.none, Had.none, Had.none, Had.none, Had.none, Had.none, Had.none, Had.none, Had.none, Had.none, Had.none, Had.none, Had.none, Had.none, Had.none, Had.none, Had.none⟩⟩ (rs := [0, 1, 2, 3, 4, 5, 6, 7, 8, 9, 10, 11, 12, 13, 14, 15, 16, 17, 18, 19, 20, 21]) (by kernel_rfl) ?_ ?_
  ·refine EachOf.cons [] rfl (by kernel_rfl) ?_ ?_
   ·rintro L A W ⟨v, rfl, hR⟩ hi hw K hK
    have q0 := (hR.st.cell (p := ⟨xb, 0, none⟩) LP0.out.2).trans LP0.out.1
    have q1 := (hR.st.cell (p := ⟨xb, 1, none⟩) LP1.out.2).trans LP1.out.1
    go_simp
    refine hK.out _ _ ?_
    exact ⟨(fun jz => if jz = 83 then .agg #[.slice p.ca p.n p.cc, .slice p.ra p.m p.rc] else v jz), rfl, ⟨hR.st, (fun _ => rfl), hR.f1.k, hR.f2.k, hR.f3.k, hR.f4.k, hR.f5.k, hR.f6.k, hR.f7.k, hR.f8.k, hR.f9.k, hR.f10.k, hR.f11.k, hR.f12.k, hR.f13.k, hR.f14.k, hR.f15.k, hR.f16.k, hR.f17.k, hR.f18.k, hR.f19.k, hR.f20.k, hR.f21.k, hR.w2.o, hR.w3.o, hR.w4.o, hR.w5.o, hR.w6.o, hR.w7.o, hR.w8.o, hR.w9.o, hR.w10.o, hR.w11.o, hR.w12.o, hR.w13.o, hR.w14.o, hR.w15.o, hR.w16.o, hR.w17.o, hR.w18.o, hR.w19.o, hR.w20.o, hR.w21.o⟩⟩
   refine EachOf.cons [] rfl (by kernel_rfl) ?_ ?_
   ·rintro L A W ⟨v, rfl, hR⟩ hi hw K hK
    go_simp
    refine hK.out _ _ ?_
    exact ⟨(fun jz => if jz = 84 then .pointer (some ⟨kb, 3, none⟩) else v jz), rfl, ⟨hR.st, hR.f0.k, (fun _ => rfl), hR.f2.k, hR.f3.k, hR.f4.k, hR.f5.k, hR.f6.k, hR.f7.k, hR.f8.k, hR.f9.k, hR.f10.k, hR.f11.k, hR.f12.k, hR.f13.k, hR.f14.k, hR.f15.k, hR.f16.k, hR.f17.k, hR.f18.k, hR.f19.k, hR.f20.k, hR.f21.k, hR.w2.o, hR.w3.o, hR.w4.o, hR.w5.o, hR.w6.o, hR.w7.o, hR.w8.o, hR.w9.o, hR.w10.o, hR.w11.o, hR.w12.o, hR.w13.o, hR.w14.o, hR.w15.o, hR.w16.o, hR.w17.o, hR.w18.o, hR.w19.o, hR.w20.o, hR.w21.o⟩⟩
   refine EachOf.cons [1] rfl (by kernel_rfl) ?_ ?_
   ·rintro L A W ⟨v, rfl, hR⟩ hi hw K hK
    have e1 := hR.f1 (hw 1 (by simp))
    simp only [e1]
    clear e1
    have q0 := (hR.st.cell (p := ⟨kb, 3, none⟩) LY.out.2).trans LY.out.1
    go_simp
    refine hK.out _ _ ?_
    exact ⟨(fun jz => if jz = 84 then .pointer (some ⟨kb, 3, none⟩) else if jz = 85 then .slice ya p.m yc else v jz), rfl, ⟨hR.st, hR.f0.k, (fun _ => rfl), (fun _ => rfl), hR.f3.k, hR.f4.k, hR.f5.k, hR.f6.k, hR.f7.k, hR.f8.k, hR.f9.k, hR.f10.k, hR.f11.k, hR.f12.k, hR.f13.k, hR.f14.k, hR.f15.k, hR.f16.k, hR.f17.k, hR.f18.k, hR.f19.k, hR.f20.k, hR.f21.k, (fun _ j hj => upd_on (hw j hj)), hR.w3.o, hR.w4.o, hR.w5.o, hR.w6.o, hR.w7.o, hR.w8.o, hR.w9.o, hR.w10.o, hR.w11.o, hR.w12.o, hR.w13.o, hR.w14.o, hR.w15.o, hR.w16.o, hR.w17.o, hR.w18.o, hR.w19.o, hR.w20.o, hR.w21.o⟩⟩
   refine EachOf.cons [0, 2] rfl (by kernel_rfl) ?_ ?_
   ·rintro L A W ⟨v, rfl, hR⟩ hi hw K hK
    have e0 := hR.f0 (hw 0 (by simp))
    have e2 := hR.f2 (hw 2 (by simp))
    simp only [e0, e2]
    clear e0 e2
    go_simp
    go_at_call 32
    (with_reducible refine (((C1 W (hR.st))).out.mono ?_))
    rintro e w2 ⟨rfl, hb⟩
    go_simp
    refine hK.out _ _ ?_
    exact ⟨(fun jz => if jz = 83 then .agg #[.slice p.ca p.n p.cc, .slice p.ra p.m p.rc] else if jz = 85 then .slice ya p.m yc else if jz = 86 then .bool true else v jz), rfl, ⟨below_on hR.st hb, (fun _ => rfl), hR.f1.k, (fun _ => rfl), (fun _ => rfl), hR.f4.k, hR.f5.k, hR.f6.k, hR.f7.k, hR.f8.k, hR.f9.k, hR.f10.k, hR.f11.k, hR.f12.k, hR.f13.k, hR.f14.k, hR.f15.k, hR.f16.k, hR.f17.k, hR.f18.k, hR.f19.k, hR.f20.k, hR.f21.k, hR.w2.o, (fun _ j hj => upd_on (hw j hj)), hR.w4.o, hR.w5.o, hR.w6.o, hR.w7.o, hR.w8.o, hR.w9.o, hR.w10.o, hR.w11.o, hR.w12.o, hR.w13.o, hR.w14.o, hR.w15.o, hR.w16.o, hR.w17.o, hR.w18.o, hR.w19.o, hR.w20.o, hR.w21.o⟩⟩
   refine EachOf.cons [3] rfl (by kernel_rfl) ?_ ?_
   ·rintro L A W ⟨v, rfl, hR⟩ hi hw K hK
    have e3 := hR.f3 (hw 3 (by simp))
    simp only [e3]
    clear e3
    go_simp
    refine hK.out _ _ ?_
    exact ⟨(fun jz => if jz = 86 then .bool true else if jz = 87 then .bool true else v jz), rfl, ⟨hR.st, hR.f0.k, hR.f1.k, hR.f2.k, (fun _ => rfl), (fun _ => rfl), hR.f5.k, hR.f6.k, hR.f7.k, hR.f8.k, hR.f9.k, hR.f10.k, hR.f11.k, hR.f12.k, hR.f13.k, hR.f14.k, hR.f15.k, hR.f16.k, hR.f17.k, hR.f18.k, hR.f19.k, hR.f20.k, hR.f21.k, hR.w2.o, hR.w3.o, (fun _ j hj => upd_on (hw j hj)), hR.w5.o, hR.w6.o, hR.w7.o, hR.w8.o, hR.w9.o, hR.w10.o, hR.w11.o, hR.w12.o, hR.w13.o, hR.w14.o, hR.w15.o, hR.w16.o, hR.w17.o, hR.w18.o, hR.w19.o, hR.w20.o, hR.w21.o⟩⟩
   refine EachOf.cons [4] rfl (by kernel_rfl) ?_ ?_
   ·rintro L A W ⟨v, rfl, hR⟩ hi hw K hK
    have e4 := hR.f4 (hw 4 (by simp))
    simp only [e4]
    clear e4
    go_simp
    refine hK.out _ _ ?_
    exact ⟨(fun jz => if jz = 87 then .bool true else if jz = 88 then .slice (some ⟨ab, 0, none⟩) (p.n + 1) (p.n + 1) else v jz), rfl, ⟨hR.st, hR.f0.k, hR.f1.k, hR.f2.k, hR.f3.k, (fun _ => rfl), (fun _ => rfl), hR.f6.k, hR.f7.k, hR.f8.k, hR.f9.k, hR.f10.k, hR.f11.k, hR.f12.k, hR.f13.k, hR.f14.k, hR.f15.k, hR.f16.k, hR.f17.k, hR.f18.k, hR.f19.k, hR.f20.k, hR.f21.k, hR.w2.o, hR.w3.o, hR.w4.o, (fun _ j hj => upd_on (hw j hj)), hR.w6.o, hR.w7.o, hR.w8.o, hR.w9.o, hR.w10.o, hR.w11.o, hR.w12.o, hR.w13.o, hR.w14.o, hR.w15.o, hR.w16.o, hR.w17.o, hR.w18.o, hR.w19.o, hR.w20.o, hR.w21.o⟩⟩
   refine EachOf.cons [4] rfl (by kernel_rfl) ?_ ?_
   ·rintro L A W ⟨v, rfl, hR⟩ hi hw K hK
    have e4 := hR.f4 (hw 4 (by simp))
    simp only [e4]
    clear e4
    go_simp
    refine hK.out _ _ ?_
    exact ⟨(fun jz => if jz = 87 then .bool true else if jz = 89 then .pointer (some ⟨xb, 0, none⟩) else v jz), rfl, ⟨hR.st, hR.f0.k, hR.f1.k, hR.f2.k, hR.f3.k, (fun _ => rfl), hR.f5.k, (fun _ => rfl), hR.f7.k, hR.f8.k, hR.f9.k, hR.f10.k, hR.f11.k, hR.f12.k, hR.f13.k, hR.f14.k, hR.f15.k, hR.f16.k, hR.f17.k, hR.f18.k, hR.f19.k, hR.f20.k, hR.f21.k, hR.w2.o, hR.w3.o, hR.w4.o, hR.w5.o, (fun _ j hj => upd_on (hw j hj)), hR.w7.o, hR.w8.o, hR.w9.o, hR.w10.o, hR.w11.o, hR.w12.o, hR.w13.o, hR.w14.o, hR.w15.o, hR.w16.o, hR.w17.o, hR.w18.o, hR.w19.o, hR.w20.o, hR.w21.o⟩⟩
   refine EachOf.cons [4, 6] rfl (by kernel_rfl) ?_ ?_
   ·rintro L A W ⟨v, rfl, hR⟩ hi hw K hK
    have e6 := hR.f6 (hw 6 (by simp))
    have e4 := hR.f4 (hw 4 (by simp))
    simp only [e6, e4]
    clear e6 e4
    have q0 := (hR.st.cell (p := ⟨xb, 0, none⟩) LP0.out.2).trans LP0.out.1
    go_simp
    refine hK.out _ _ ?_
    exact ⟨(fun jz => if jz = 89 then .pointer (some ⟨xb, 0, none⟩) else if jz = 87 then .bool true else if jz = 90 then .slice p.ca p.n p.cc else v jz), rfl, ⟨hR.st, hR.f0.k, hR.f1.k, hR.f2.k, hR.f3.k, (fun _ => rfl), hR.f5.k, (fun _ => rfl), (fun _ => rfl), hR.f8.k, hR.f9.k, hR.f10.k, hR.f11.k, hR.f12.k, hR.f13.k, hR.f14.k, hR.f15.k, hR.f16.k, hR.f17.k, hR.f18.k, hR.f19.k, hR.f20.k, hR.f21.k, hR.w2.o, hR.w3.o, hR.w4.o, hR.w5.o, hR.w6.o, (fun _ j hj => upd_on (hw j hj)), hR.w8.o, hR.w9.o, hR.w10.o, hR.w11.o, hR.w12.o, hR.w13.o, hR.w14.o, hR.w15.o, hR.w16.o, hR.w17.o, hR.w18.o, hR.w19.o, hR.w20.o, hR.w21.o⟩⟩
   refine EachOf.cons [4, 5, 7] rfl (by kernel_rfl) ?_ ?_
   ·rintro L A W ⟨v, rfl, hR⟩ hi hw K hK
    have e5 := hR.f5 (hw 5 (by simp))
    have e7 := hR.f7 (hw 7 (by simp))
    have e4 := hR.f4 (hw 4 (by simp))
    simp only [e5, e7, e4]
    clear e5 e7 e4
    go_simp
    go_at_call 33
    (with_reducible refine (((C2 W (hR.st))).out.mono ?_))
    rintro e w2 ⟨rfl, hb⟩
    go_simp
    refine hK.out _ _ ?_
    exact ⟨(fun jz => if jz = 88 then .slice (some ⟨ab, 0, none⟩) (p.n + 1) (p.n + 1) else if jz = 90 then .slice p.ca p.n p.cc else if jz = 87 then .bool true else if jz = 91 then .bool false else v jz), rfl, ⟨below_on hR.st hb, hR.f0.k, hR.f1.k, hR.f2.k, hR.f3.k, (fun _ => rfl), (fun _ => rfl), hR.f6.k, (fun _ => rfl), (fun _ => rfl), hR.f9.k, hR.f10.k, hR.f11.k, hR.f12.k, hR.f13.k, hR.f14.k, hR.f15.k, hR.f16.k, hR.f17.k, hR.f18.k, hR.f19.k, hR.f20.k, hR.f21.k, hR.w2.o, hR.w3.o, hR.w4.o, hR.w5.o, hR.w6.o, hR.w7.o, (fun _ j hj => upd_on (hw j hj)), hR.w9.o, hR.w10.o, hR.w11.o, hR.w12.o, hR.w13.o, hR.w14.o, hR.w15.o, hR.w16.o, hR.w17.o, hR.w18.o, hR.w19.o, hR.w20.o, hR.w21.o⟩⟩
   refine EachOf.cons [4, 8] rfl (by kernel_rfl) ?_ ?_
   ·rintro L A W ⟨v, rfl, hR⟩ hi hw K hK
    have e4 := hR.f4 (hw 4 (by simp))
    have e8 := hR.f8 (hw 8 (by simp))
    simp only [e4, e8]
    clear e4 e8
    go_simp
    refine hK.out _ _ ?_
    exact ⟨(fun jz => if jz = 87 then .bool true else if jz = 91 then .bool false else if jz = 92 then .bool false else v jz), rfl, ⟨hR.st, hR.f0.k, hR.f1.k, hR.f2.k, hR.f3.k, (fun _ => rfl), hR.f5.k, hR.f6.k, hR.f7.k, (fun _ => rfl), (fun _ => rfl), hR.f10.k, hR.f11.k, hR.f12.k, hR.f13.k, hR.f14.k, hR.f15.k, hR.f16.k, hR.f17.k, hR.f18.k, hR.f19.k, hR.f20.k, hR.f21.k, hR.w2.o, hR.w3.o, hR.w4.o, hR.w5.o, hR.w6.o, hR.w7.o, hR.w8.o, (fun _ j hj => upd_on (hw j hj)), hR.w10.o, hR.w11.o, hR.w12.o, hR.w13.o, hR.w14.o, hR.w15.o, hR.w16.o, hR.w17.o, hR.w18.o, hR.w19.o, hR.w20.o, hR.w21.o⟩⟩
   refine EachOf.cons [9] rfl (by kernel_rfl) ?_ ?_
   ·rintro L A W ⟨v, rfl, hR⟩ hi hw K hK
    have e9 := hR.f9 (hw 9 (by simp))
    simp only [e9]
    clear e9
    go_simp
    refine hK.out _ _ ?_
    exact ⟨(fun jz => if jz = 92 then .bool false else if jz = 93 then .bool false else v jz), rfl, ⟨hR.st, hR.f0.k, hR.f1.k, hR.f2.k, hR.f3.k, hR.f4.k, hR.f5.k, hR.f6.k, hR.f7.k, hR.f8.k, (fun _ => rfl), (fun _ => rfl), hR.f11.k, hR.f12.k, hR.f13.k, hR.f14.k, hR.f15.k, hR.f16.k, hR.f17.k, hR.f18.k, hR.f19.k, hR.f20.k, hR.f21.k, hR.w2.o, hR.w3.o, hR.w4.o, hR.w5.o, hR.w6.o, hR.w7.o, hR.w8.o, hR.w9.o, (fun _ j hj => upd_on (hw j hj)), hR.w11.o, hR.w12.o, hR.w13.o, hR.w14.o, hR.w15.o, hR.w16.o, hR.w17.o, hR.w18.o, hR.w19.o, hR.w20.o, hR.w21.o⟩⟩
   refine EachOf.cons [10] rfl (by kernel_rfl) ?_ ?_
   ·rintro L A W ⟨v, rfl, hR⟩ hi hw K hK
    have e10 := hR.f10 (hw 10 (by simp))
    simp only [e10]
    clear e10
    go_simp
    refine hK.out _ _ ?_
    exact ⟨(fun jz => if jz = 93 then .bool false else if jz = 94 then undef else v jz), rfl, ⟨hR.st, hR.f0.k, hR.f1.k, hR.f2.k, hR.f3.k, hR.f4.k, hR.f5.k, hR.f6.k, hR.f7.k, hR.f8.k, hR.f9.k, (fun _ => rfl), (fun _ => rfl), hR.f12.k, hR.f13.k, hR.f14.k, hR.f15.k, hR.f16.k, hR.f17.k, hR.f18.k, hR.f19.k, hR.f20.k, hR.f21.k, hR.w2.o, hR.w3.o, hR.w4.o, hR.w5.o, hR.w6.o, hR.w7.o, hR.w8.o, hR.w9.o, hR.w10.o, (fun _ j hj => upd_on (hw j hj)), hR.w12.o, hR.w13.o, hR.w14.o, hR.w15.o, hR.w16.o, hR.w17.o, hR.w18.o, hR.w19.o, hR.w20.o, hR.w21.o⟩⟩
   refine EachOf.cons [10] rfl (by kernel_rfl) ?_ ?_
   ·rintro L A W ⟨v, rfl, hR⟩ hi hw K hK
    have e10 := hR.f10 (hw 10 (by simp))
    simp only [e10]
    clear e10
    go_simp
    refine hK.out _ _ ?_
    exact ⟨(fun jz => if jz = 93 then .bool false else if jz = 95 then undef else v jz), rfl, ⟨hR.st, hR.f0.k, hR.f1.k, hR.f2.k, hR.f3.k, hR.f4.k, hR.f5.k, hR.f6.k, hR.f7.k, hR.f8.k, hR.f9.k, (fun _ => rfl), hR.f11.k, (fun _ => rfl), hR.f13.k, hR.f14.k, hR.f15.k, hR.f16.k, hR.f17.k, hR.f18.k, hR.f19.k, hR.f20.k, hR.f21.k, hR.w2.o, hR.w3.o, hR.w4.o, hR.w5.o, hR.w6.o, hR.w7.o, hR.w8.o, hR.w9.o, hR.w10.o, hR.w11.o, (fun _ j hj => upd_on (hw j hj)), hR.w13.o, hR.w14.o, hR.w15.o, hR.w16.o, hR.w17.o, hR.w18.o, hR.w19.o, hR.w20.o, hR.w21.o⟩⟩
   refine EachOf.cons [10, 12] rfl (by kernel_rfl) ?_ ?_
   ·rintro L A W ⟨v, rfl, hR⟩ hi hw K hK
    have e12 := hR.f12 (hw 12 (by simp))
    have e10 := hR.f10 (hw 10 (by simp))
    simp only [e12, e10]
    clear e12 e10
    go_simp
    refine hK.out _ _ ?_
    exact ⟨(fun jz => if jz = 95 then undef else if jz = 93 then .bool false else if jz = 96 then undef else v jz), rfl, ⟨hR.st, hR.f0.k, hR.f1.k, hR.f2.k, hR.f3.k, hR.f4.k, hR.f5.k, hR.f6.k, hR.f7.k, hR.f8.k, hR.f9.k, (fun _ => rfl), hR.f11.k, (fun _ => rfl), (fun _ => rfl), hR.f14.k, hR.f15.k, hR.f16.k, hR.f17.k, hR.f18.k, hR.f19.k, hR.f20.k, hR.f21.k, hR.w2.o, hR.w3.o, hR.w4.o, hR.w5.o, hR.w6.o, hR.w7.o, hR.w8.o, hR.w9.o, hR.w10.o, hR.w11.o, hR.w12.o, (fun _ j hj => upd_on (hw j hj)), hR.w14.o, hR.w15.o, hR.w16.o, hR.w17.o, hR.w18.o, hR.w19.o, hR.w20.o, hR.w21.o⟩⟩
   refine EachOf.cons [10, 13] rfl (by kernel_rfl) ?_ ?_
   ·rintro L A W ⟨v, rfl, hR⟩ hi hw K hK
    have e13 := hR.f13 (hw 13 (by simp))
    have e10 := hR.f10 (hw 10 (by simp))
    simp only [e13, e10]
    clear e13 e10
    go_simp
    refine hK.out _ _ ?_
    exact ⟨(fun jz => if jz = 96 then undef else if jz = 93 then .bool false else if jz = 97 then undef else v jz), rfl, ⟨hR.st, hR.f0.k, hR.f1.k, hR.f2.k, hR.f3.k, hR.f4.k, hR.f5.k, hR.f6.k, hR.f7.k, hR.f8.k, hR.f9.k, (fun _ => rfl), hR.f11.k, hR.f12.k, (fun _ => rfl), (fun _ => rfl), hR.f15.k, hR.f16.k, hR.f17.k, hR.f18.k, hR.f19.k, hR.f20.k, hR.f21.k, hR.w2.o, hR.w3.o, hR.w4.o, hR.w5.o, hR.w6.o, hR.w7.o, hR.w8.o, hR.w9.o, hR.w10.o, hR.w11.o, hR.w12.o, hR.w13.o, (fun _ j hj => upd_on (hw j hj)), hR.w15.o, hR.w16.o, hR.w17.o, hR.w18.o, hR.w19.o, hR.w20.o, hR.w21.o⟩⟩
   refine EachOf.cons [10, 11, 14] rfl (by kernel_rfl) ?_ ?_
   ·rintro L A W ⟨v, rfl, hR⟩ hi hw K hK
    have e11 := hR.f11 (hw 11 (by simp))
    have e14 := hR.f14 (hw 14 (by simp))
    have e10 := hR.f10 (hw 10 (by simp))
    simp only [e11, e14, e10]
    clear e11 e14 e10
    go_simp
    refine hK.out _ _ ?_
    exact ⟨(fun jz => if jz = 94 then undef else if jz = 97 then undef else if jz = 93 then .bool false else if jz = 98 then undef else v jz), rfl, ⟨hR.st, hR.f0.k, hR.f1.k, hR.f2.k, hR.f3.k, hR.f4.k, hR.f5.k, hR.f6.k, hR.f7.k, hR.f8.k, hR.f9.k, (fun _ => rfl), (fun _ => rfl), hR.f12.k, hR.f13.k, (fun _ => rfl), (fun _ => rfl), hR.f16.k, hR.f17.k, hR.f18.k, hR.f19.k, hR.f20.k, hR.f21.k, hR.w2.o, hR.w3.o, hR.w4.o, hR.w5.o, hR.w6.o, hR.w7.o, hR.w8.o, hR.w9.o, hR.w10.o, hR.w11.o, hR.w12.o, hR.w13.o, hR.w14.o, (fun _ j hj => upd_on (hw j hj)), hR.w16.o, hR.w17.o, hR.w18.o, hR.w19.o, hR.w20.o, hR.w21.o⟩⟩
   refine EachOf.cons [10, 15] rfl (by kernel_rfl) ?_ ?_
   ·rintro L A W ⟨v, rfl, hR⟩ hi hw K hK
    have e15 := hR.f15 (hw 15 (by simp))
    have e10 := hR.f10 (hw 10 (by simp))
    simp only [e15, e10]
    clear e15 e10
    go_simp
    refine hK.out _ _ ?_
    exact ⟨(fun jz => if jz = 98 then undef else if jz = 93 then .bool false else if jz = 99 then undef else v jz), rfl, ⟨hR.st, hR.f0.k, hR.f1.k, hR.f2.k, hR.f3.k, hR.f4.k, hR.f5.k, hR.f6.k, hR.f7.k, hR.f8.k, hR.f9.k, (fun _ => rfl), hR.f11.k, hR.f12.k, hR.f13.k, hR.f14.k, (fun _ => rfl), (fun _ => rfl), hR.f17.k, hR.f18.k, hR.f19.k, hR.f20.k, hR.f21.k, hR.w2.o, hR.w3.o, hR.w4.o, hR.w5.o, hR.w6.o, hR.w7.o, hR.w8.o, hR.w9.o, hR.w10.o, hR.w11.o, hR.w12.o, hR.w13.o, hR.w14.o, hR.w15.o, (fun _ j hj => upd_on (hw j hj)), hR.w17.o, hR.w18.o, hR.w19.o, hR.w20.o, hR.w21.o⟩⟩
   refine EachOf.cons [10] rfl (by kernel_rfl) ?_ ?_
   ·rintro L A W ⟨v, rfl, hR⟩ hi hw K hK
    have e10 := hR.f10 (hw 10 (by simp))
    simp only [e10]
    clear e10
    go_simp
    refine hK.out _ _ ?_
    exact ⟨(fun jz => if jz = 93 then .bool false else if jz = 100 then undef else v jz), rfl, ⟨hR.st, hR.f0.k, hR.f1.k, hR.f2.k, hR.f3.k, hR.f4.k, hR.f5.k, hR.f6.k, hR.f7.k, hR.f8.k, hR.f9.k, (fun _ => rfl), hR.f11.k, hR.f12.k, hR.f13.k, hR.f14.k, hR.f15.k, hR.f16.k, (fun _ => rfl), hR.f18.k, hR.f19.k, hR.f20.k, hR.f21.k, hR.w2.o, hR.w3.o, hR.w4.o, hR.w5.o, hR.w6.o, hR.w7.o, hR.w8.o, hR.w9.o, hR.w10.o, hR.w11.o, hR.w12.o, hR.w13.o, hR.w14.o, hR.w15.o, hR.w16.o, (fun _ j hj => upd_on (hw j hj)), hR.w18.o, hR.w19.o, hR.w20.o, hR.w21.o⟩⟩
   refine EachOf.cons [10, 17] rfl (by kernel_rfl) ?_ ?_
   ·rintro L A W ⟨v, rfl, hR⟩ hi hw K hK
    have e17 := hR.f17 (hw 17 (by simp))
    have e10 := hR.f10 (hw 10 (by simp))
    simp only [e17, e10]
    clear e17 e10
    go_simp
    refine hK.out _ _ ?_
    exact ⟨(fun jz => if jz = 100 then undef else if jz = 93 then .bool false else if jz = 101 then undef else v jz), rfl, ⟨hR.st, hR.f0.k, hR.f1.k, hR.f2.k, hR.f3.k, hR.f4.k, hR.f5.k, hR.f6.k, hR.f7.k, hR.f8.k, hR.f9.k, (fun _ => rfl), hR.f11.k, hR.f12.k, hR.f13.k, hR.f14.k, hR.f15.k, hR.f16.k, (fun _ => rfl), (fun _ => rfl), hR.f19.k, hR.f20.k, hR.f21.k, hR.w2.o, hR.w3.o, hR.w4.o, hR.w5.o, hR.w6.o, hR.w7.o, hR.w8.o, hR.w9.o, hR.w10.o, hR.w11.o, hR.w12.o, hR.w13.o, hR.w14.o, hR.w15.o, hR.w16.o, hR.w17.o, (fun _ j hj => upd_on (hw j hj)), hR.w19.o, hR.w20.o, hR.w21.o⟩⟩
   refine EachOf.cons [10, 16, 18] rfl (by kernel_rfl) ?_ ?_
   ·rintro L A W ⟨v, rfl, hR⟩ hi hw K hK
    have e16 := hR.f16 (hw 16 (by simp))
    have e18 := hR.f18 (hw 18 (by simp))
    have e10 := hR.f10 (hw 10 (by simp))
    simp only [e16, e18, e10]
    clear e16 e18 e10
    go_simp
    refine hK.out _ _ ?_
    exact ⟨(fun jz => if jz = 99 then undef else if jz = 101 then undef else if jz = 93 then .bool false else if jz = 102 then undef else v jz), rfl, ⟨hR.st, hR.f0.k, hR.f1.k, hR.f2.k, hR.f3.k, hR.f4.k, hR.f5.k, hR.f6.k, hR.f7.k, hR.f8.k, hR.f9.k, (fun _ => rfl), hR.f11.k, hR.f12.k, hR.f13.k, hR.f14.k, hR.f15.k, (fun _ => rfl), hR.f17.k, (fun _ => rfl), (fun _ => rfl), hR.f20.k, hR.f21.k, hR.w2.o, hR.w3.o, hR.w4.o, hR.w5.o, hR.w6.o, hR.w7.o, hR.w8.o, hR.w9.o, hR.w10.o, hR.w11.o, hR.w12.o, hR.w13.o, hR.w14.o, hR.w15.o, hR.w16.o, hR.w17.o, hR.w18.o, (fun _ j hj => upd_on (hw j hj)), hR.w20.o, hR.w21.o⟩⟩
   refine EachOf.cons [10, 19] rfl (by kernel_rfl) ?_ ?_
   ·rintro L A W ⟨v, rfl, hR⟩ hi hw K hK
    have e10 := hR.f10 (hw 10 (by simp))
    have e19 := hR.f19 (hw 19 (by simp))
    simp only [e10, e19]
    clear e10 e19
    go_simp
    refine hK.out _ _ ?_
    exact ⟨(fun jz => if jz = 93 then .bool false else if jz = 102 then undef else if jz = 103 then .bool false else v jz), rfl, ⟨hR.st, hR.f0.k, hR.f1.k, hR.f2.k, hR.f3.k, hR.f4.k, hR.f5.k, hR.f6.k, hR.f7.k, hR.f8.k, hR.f9.k, (fun _ => rfl), hR.f11.k, hR.f12.k, hR.f13.k, hR.f14.k, hR.f15.k, hR.f16.k, hR.f17.k, hR.f18.k, (fun _ => rfl), (fun _ => rfl), hR.f21.k, hR.w2.o, hR.w3.o, hR.w4.o, hR.w5.o, hR.w6.o, hR.w7.o, hR.w8.o, hR.w9.o, hR.w10.o, hR.w11.o, hR.w12.o, hR.w13.o, hR.w14.o, hR.w15.o, hR.w16.o, hR.w17.o, hR.w18.o, hR.w19.o, (fun _ j hj => upd_on (hw j hj)), hR.w21.o⟩⟩
   refine EachOf.cons [20] rfl (by kernel_rfl) ?_ ?_
   ·rintro L A W ⟨v, rfl, hR⟩ hi hw K hK
    have e20 := hR.f20 (hw 20 (by simp))
    simp only [e20]
    clear e20
    go_simp
    refine hK.out _ _ ?_
    exact ⟨(fun jz => if jz = 103 then .bool false else if jz = 13 then .bool false else v jz), rfl, ⟨hR.st, hR.f0.k, hR.f1.k, hR.f2.k, hR.f3.k, hR.f4.k, hR.f5.k, hR.f6.k, hR.f7.k, hR.f8.k, hR.f9.k, hR.f10.k, hR.f11.k, hR.f12.k, hR.f13.k, hR.f14.k, hR.f15.k, hR.f16.k, hR.f17.k, hR.f18.k, hR.f19.k, (fun _ => rfl), (fun _ => rfl), hR.w2.o, hR.w3.o, hR.w4.o, hR.w5.o, hR.w6.o, hR.w7.o, hR.w8.o, hR.w9.o, hR.w10.o, hR.w11.o, hR.w12.o, hR.w13.o, hR.w14.o, hR.w15.o, hR.w16.o, hR.w17.o, hR.w18.o, hR.w19.o, hR.w20.o, (fun _ j hj => upd_on (hw j hj))⟩⟩
   exact EachOf.nil
  rintro L A W ⟨v, rfl, hR⟩ hL
  have e21 := hR.f21 (hL 21 (by simp))
  simp only [e21]
  have HVB := Lib.hid (HVB.out.on hR.st)
  have HKB := Lib.hid (HKB.out.on hR.st)
  have HB := Lib.hid (below_on HB.out hR.st)
  clear e21 hR hL C1 C2 LP0 LP1 LY LV0 LV1 LT0 LT1 HXB
  obtain ⟨_, b0, b1⟩ := HVB.out
  have k0 := HKB.out.c0
  have k1 := HKB.out.c1
  cases fv
  ·go_wp2_with fail
   go_ret2
   (first | exact ⟨HB.out, false, 0, rfl, .inr (.inr (.inr ⟨hok, HFV.out.1, HFV.out.2.1, HFV.out.2.2, rfl, rfl, HCF.out, ⟨fun h => (by cases h), fun h => absurd h HNO.out⟩, rfl⟩))⟩ | exact ⟨HB.out, .inl ⟨0, rfl, .inr (.inr (.inr ⟨hok, HFV.out.1, HFV.out.2.1, HFV.out.2.2, rfl, rfl, HCF.out, ⟨fun h => (by cases h), fun h => absurd h HNO.out⟩, rfl⟩))⟩⟩)
  ·by_cases h1 : ra = va
   ·subst h1
    by_cases h2 : rd = vd
    ·subst h2
     go_wp2_with fail
     go_ret2
     (first | exact ⟨HB.out, false, 0, rfl, .inr (.inr (.inr ⟨hok, HFV.out.1, HFV.out.2.1, HFV.out.2.2, rfl, rfl, HCF.out, ⟨fun h => (by cases h), fun h => absurd h HNO.out⟩, rfl⟩))⟩ | exact ⟨HB.out, .inl ⟨0, rfl, .inr (.inr (.inr ⟨hok, HFV.out.1, HFV.out.2.1, HFV.out.2.2, rfl, rfl, HCF.out, ⟨fun h => (by cases h), fun h => absurd h HNO.out⟩, rfl⟩))⟩⟩)
    ·go_wp2_with fail
     go_ret2
     (first | exact ⟨HB.out, false, 0, rfl, .inr (.inr (.inr ⟨hok, HFV.out.1, HFV.out.2.1, HFV.out.2.2, rfl, rfl, HCF.out, ⟨fun h => (by cases h), fun h => absurd h HNO.out⟩, rfl⟩))⟩ | exact ⟨HB.out, .inl ⟨0, rfl, .inr (.inr (.inr ⟨hok, HFV.out.1, HFV.out.2.1, HFV.out.2.2, rfl, rfl, HCF.out, ⟨fun h => (by cases h), fun h => absurd h HNO.out⟩, rfl⟩))⟩⟩)
   ·go_wp2_with fail
    go_ret2
    (first | exact ⟨HB.out, false, 0, rfl, .inr (.inr (.inr ⟨hok, HFV.out.1, HFV.out.2.1, HFV.out.2.2, rfl, rfl, HCF.out, ⟨fun h => (by cases h), fun h => absurd h HNO.out⟩, rfl⟩))⟩ | exact ⟨HB.out, .inl ⟨0, rfl, .inr (.inr (.inr ⟨hok, HFV.out.1, HFV.out.2.1, HFV.out.2.2, rfl, rfl, HCF.out, ⟨fun h => (by cases h), fun h => absurd h HNO.out⟩, rfl⟩))⟩⟩)
 by_cases had : a = va ∧ d = vd
 case neg =>
  have HNO : Hid (¬ ChkR p va vd X Y) := fun h => had (by
   have := h.rgt
   rw [HAD.out] at this
   exact ⟨(three this).1, (three this).2.1⟩)
  have hif : ∀ (α : Type) (x y : α), (if a = va then if d = vd then x else y else y) = y := fun α x y => by
   by_cases h1 : a = va
   ·rw [if_pos h1, if_neg (fun h2 => had ⟨h1, h2⟩)]
   ·rw [if_neg h1]
  have HIF := Lib.hid hif
  clear hif had
  refine wp_region_each (fun L A W => ∃ (v : Nat → Value), A = ⟨#[_, _, _, _, _, _, _, _, _, _, _, _, _, v 13, _, _, _, _, _, _, _, _, _, _, _, _, _, _, _, _, _, _, _, _, _, _, _, _, _, _, _, _, _, _, _, _, _, _, _, _, _, _, _, _, _, _, _, _, _, _, _, _, _, _, _, _, _, _, _, _, _, _, _, _, _, _, _, _, _, _, _, _, _, v 83, v 84, v 85, v 86, v 87, v 88, v 89, v 90, v 91, v 92, v 93, v 94, v 95, v 96, v 97, v 98, v 99, v 100, v 101, v 102, v 103, _, _, _, _, _, _, _, _, _, _], []⟩ ∧ CkDR xb kb ab p.n p.m p.cc p.rc yc p.ca p.ra ya a d va vd wc L v W) (by kernel_rfl) (by kernel_rfl) ⟨fun jz => if jz = 83 then undef else if jz = 84 then undef else if jz = 85 then undef else if jz = 86 then undef else if jz = 87 then undef else if jz = 88 then undef else if jz = 89 then undef else if jz = 90 then undef else if jz = 91 then undef else if jz = 92 then undef else if jz = 93 then undef else if jz = 94 then undef else if jz = 95 then undef else if jz = 96 then undef else if jz = 97 then undef else if jz = 98 then undef else if jz = 99 then undef else if jz = 100 then undef else if jz = 101 then undef else if jz = 102 then undef else if jz = 103 then undef else if jz = 13 then undef else undef, rfl, ⟨Below.drew (Below.refl _ _), Had.none, Had.none, Had.none, Had.none, Had.none, Had.none, Had.none, Had.none, Had.none, Had.none, Had.none, Had.none, Had.none, Had.none, Had.none, Had.none, Had.none, Had.none, Had.none, Had.none, Had.none, Had.none, Had.none, Had.none, Had.none, Had.none, Had.none, Had.none, Had.none, Had.none, Had.none, Had.none, Had.none, Had.none, Had.none, Had.none, Had.none, Had.none, Had.none, Had.none, Had.none, Had.none⟩⟩ (rs := [0, 1, 2, 3, 4, 5, 6, 7, 8, 9, 10, 11, 12, 13, 14, 15, 16, 17, 18, 19, 20, 21]) (by kernel_rfl) ?_ ?_
  ·refine EachOf.cons [] rfl (by kernel_rfl) ?_ ?_
   ·rintro L A W ⟨v, rfl, hR⟩ hi hw K hK
    have q0 := (hR.st.cell (p := ⟨xb, 0, none⟩) LP0.out.2).trans LP0.out.1
    have q1 := (hR.st.cell (p := ⟨xb, 1, none⟩) LP1.out.2).trans LP1.out.1
    go_simp
    refine hK.out _ _ ?_
    exact ⟨(fun jz => if jz = 83 then .agg #[.slice p.ca p.n p.cc, .slice p.ra p.m p.rc] else v jz), rfl, ⟨hR.st, (fun _ => rfl), hR.f1.k, hR.f2.k, hR.f3.k, hR.f4.k, hR.f5.k, hR.f6.k, hR.f7.k, hR.f8.k, hR.f9.k, hR.f10.k, hR.f11.k, hR.f12.k, hR.f13.k, hR.f14.k, hR.f15.k, hR.f16.k, hR.f17.k, hR.f18.k, hR.f19.k, hR.f20.k, hR.f21.k, hR.w2.o, hR.w3.o, hR.w4.o, hR.w5.o, hR.w6.o, hR.w7.o, hR.w8.o, hR.w9.o, hR.w10.o, hR.w11.o, hR.w12.o, hR.w13.o, hR.w14.o, hR.w15.o, hR.w16.o, hR.w17.o, hR.w18.o, hR.w19.o, hR.w20.o, hR.w21.o⟩⟩
   refine EachOf.cons [] rfl (by kernel_rfl) ?_ ?_
   ·rintro L A W ⟨v, rfl, hR⟩ hi hw K hK
    go_simp
    refine hK.out _ _ ?_
    exact ⟨(fun jz => if jz = 84 then .pointer (some ⟨kb, 3, none⟩) else v jz), rfl, ⟨hR.st, hR.f0.k, (fun _ => rfl), hR.f2.k, hR.f3.k, hR.f4.k, hR.f5.k, hR.f6.k, hR.f7.k, hR.f8.k, hR.f9.k, hR.f10.k, hR.f11.k, hR.f12.k, hR.f13.k, hR.f14.k, hR.f15.k, hR.f16.k, hR.f17.k, hR.f18.k, hR.f19.k, hR.f20.k, hR.f21.k, hR.w2.o, hR.w3.o, hR.w4.o, hR.w5.o, hR.w6.o, hR.w7.o, hR.w8.o, hR.w9.o, hR.w10.o, hR.w11.o, hR.w12.o, hR.w13.o, hR.w14.o, hR.w15.o, hR.w16.o, hR.w17.o, hR.w18.o, hR.w19.o, hR.w20.o, hR.w21.o⟩⟩
   refine EachOf.cons [1] rfl (by kernel_rfl) ?_ ?_
   ·rintro L A W ⟨v, rfl, hR⟩ hi hw K hK
    have e1 := hR.f1 (hw 1 (by simp))
    simp only [e1]
    clear e1
    have q0 := (hR.st.cell (p := ⟨kb, 3, none⟩) LY.out.2).trans LY.out.1
    go_simp
    refine hK.out _ _ ?_
    exact ⟨(fun jz => if jz = 84 then .pointer (some ⟨kb, 3, none⟩) else if jz = 85 then .slice ya p.m yc else v jz), rfl, ⟨hR.st, hR.f0.k, (fun _ => rfl), (fun _ => rfl), hR.f3.k, hR.f4.k, hR.f5.k, hR.f6.k, hR.f7.k, hR.f8.k, hR.f9.k, hR.f10.k, hR.f11.k, hR.f12.k, hR.f13.k, hR.f14.k, hR.f15.k, hR.f16.k, hR.f17.k, hR.f18.k, hR.f19.k, hR.f20.k, hR.f21.k, (fun _ j hj => upd_on (hw j hj)), hR.w3.o, hR.w4.o, hR.w5.o, hR.w6.o, hR.w7.o, hR.w8.o, hR.w9.o, hR.w10.o, hR.w11.o, hR.w12.o, hR.w13.o, hR.w14.o, hR.w15.o, hR.w16.o, hR.w17.o, hR.w18.o, hR.w19.o, hR.w20.o, hR.w21.o⟩⟩
   refine EachOf.cons [0, 2] rfl (by kernel_rfl) ?_ ?_
   ·rintro L A W ⟨v, rfl, hR⟩ hi hw K hK
    have e0 := hR.f0 (hw 0 (by simp))
    have e2 := hR.f2 (hw 2 (by simp))
    simp only [e0, e2]
    clear e0 e2
    go_simp
    go_at_call 32
    (with_reducible refine (((C1 W (hR.st))).out.mono ?_))
    rintro e w2 ⟨rfl, hb⟩
    go_simp
    refine hK.out _ _ ?_
    exact ⟨(fun jz => if jz = 83 then .agg #[.slice p.ca p.n p.cc, .slice p.ra p.m p.rc] else if jz = 85 then .slice ya p.m yc else if jz = 86 then .bool true else v jz), rfl, ⟨below_on hR.st hb, (fun _ => rfl), hR.f1.k, (fun _ => rfl), (fun _ => rfl), hR.f4.k, hR.f5.k, hR.f6.k, hR.f7.k, hR.f8.k, hR.f9.k, hR.f10.k, hR.f11.k, hR.f12.k, hR.f13.k, hR.f14.k, hR.f15.k, hR.f16.k, hR.f17.k, hR.f18.k, hR.f19.k, hR.f20.k, hR.f21.k, hR.w2.o, (fun _ j hj => upd_on (hw j hj)), hR.w4.o, hR.w5.o, hR.w6.o, hR.w7.o, hR.w8.o, hR.w9.o, hR.w10.o, hR.w11.o, hR.w12.o, hR.w13.o, hR.w14.o, hR.w15.o, hR.w16.o, hR.w17.o, hR.w18.o, hR.w19.o, hR.w20.o, hR.w21.o⟩⟩
   refine EachOf.cons [3] rfl (by kernel_rfl) ?_ ?_
   ·rintro L A W ⟨v, rfl, hR⟩ hi hw K hK
    have e3 := hR.f3 (hw 3 (by simp))
    simp only [e3]
    clear e3
    go_simp
    refine hK.out _ _ ?_
    exact ⟨(fun jz => if jz = 86 then .bool true else if jz = 87 then .bool true else v jz), rfl, ⟨hR.st, hR.f0.k, hR.f1.k, hR.f2.k, (fun _ => rfl), (fun _ => rfl), hR.f5.k, hR.f6.k, hR.f7.k, hR.f8.k, hR.f9.k, hR.f10.k, hR.f11.k, hR.f12.k, hR.f13.k, hR.f14.k, hR.f15.k, hR.f16.k, hR.f17.k, hR.f18.k, hR.f19.k, hR.f20.k, hR.f21.k, hR.w2.o, hR.w3.o, (fun _ j hj => upd_on (hw j hj)), hR.w5.o, hR.w6.o, hR.w7.o, hR.w8.o, hR.w9.o, hR.w10.o, hR.w11.o, hR.w12.o, hR.w13.o, hR.w14.o, hR.w15.o, hR.w16.o, hR.w17.o, hR.w18.o, hR.w19.o, hR.w20.o, hR.w21.o⟩⟩
   refine EachOf.cons [4] rfl (by kernel_rfl) ?_ ?_
   ·rintro L A W ⟨v, rfl, hR⟩ hi hw K hK
    have e4 := hR.f4 (hw 4 (by simp))
    simp only [e4]
    clear e4
    go_simp
    refine hK.out _ _ ?_
    exact ⟨(fun jz => if jz = 87 then .bool true else if jz = 88 then .slice (some ⟨ab, 0, none⟩) (p.n + 1) (p.n + 1) else v jz), rfl, ⟨hR.st, hR.f0.k, hR.f1.k, hR.f2.k, hR.f3.k, (fun _ => rfl), (fun _ => rfl), hR.f6.k, hR.f7.k, hR.f8.k, hR.f9.k, hR.f10.k, hR.f11.k, hR.f12.k, hR.f13.k, hR.f14.k, hR.f15.k, hR.f16.k, hR.f17.k, hR.f18.k, hR.f19.k, hR.f20.k, hR.f21.k, hR.w2.o, hR.w3.o, hR.w4.o, (fun _ j hj => upd_on (hw j hj)), hR.w6.o, hR.w7.o, hR.w8.o, hR.w9.o, hR.w10.o, hR.w11.o, hR.w12.o, hR.w13.o, hR.w14.o, hR.w15.o, hR.w16.o, hR.w17.o, hR.w18.o, hR.w19.o, hR.w20.o, hR.w21.o⟩⟩
   refine EachOf.cons [4] rfl (by kernel_rfl) ?_ ?_
   ·rintro L A W ⟨v, rfl, hR⟩ hi hw K hK
    have e4 := hR.f4 (hw 4 (by simp))
    simp only [e4]
    clear e4
    go_simp
    refine hK.out _ _ ?_
    exact ⟨(fun jz => if jz = 87 then .bool true else if jz = 89 then .pointer (some ⟨xb, 0, none⟩) else v jz), rfl, ⟨hR.st, hR.f0.k, hR.f1.k, hR.f2.k, hR.f3.k, (fun _ => rfl), hR.f5.k, (fun _ => rfl), hR.f7.k, hR.f8.k, hR.f9.k, hR.f10.k, hR.f11.k, hR.f12.k, hR.f13.k, hR.f14.k, hR.f15.k, hR.f16.k, hR.f17.k, hR.f18.k, hR.f19.k, hR.f20.k, hR.f21.k, hR.w2.o, hR.w3.o, hR.w4.o, hR.w5.o, (fun _ j hj => upd_on (hw j hj)), hR.w7.o, hR.w8.o, hR.w9.o, hR.w10.o, hR.w11.o, hR.w12.o, hR.w13.o, hR.w14.o, hR.w15.o, hR.w16.o, hR.w17.o, hR.w18.o, hR.w19.o, hR.w20.o, hR.w21.o⟩⟩
   refine EachOf.cons [4, 6] rfl (by kernel_rfl) ?_ ?_
   ·rintro L A W ⟨v, rfl, hR⟩ hi hw K hK
    have e6 := hR.f6 (hw 6 (by simp))
    have e4 := hR.f4 (hw 4 (by simp))
    simp only [e6, e4]
    clear e6 e4
    have q0 := (hR.st.cell (p := ⟨xb, 0, none⟩) LP0.out.2).trans LP0.out.1
    go_simp
    refine hK.out _ _ ?_
    exact ⟨(fun jz => if jz = 89 then .pointer (some ⟨xb, 0, none⟩) else if jz = 87 then .bool true else if jz = 90 then .slice p.ca p.n p.cc else v jz), rfl, ⟨hR.st, hR.f0.k, hR.f1.k, hR.f2.k, hR.f3.k, (fun _ => rfl), hR.f5.k, (fun _ => rfl), (fun _ => rfl), hR.f8.k, hR.f9.k, hR.f10.k, hR.f11.k, hR.f12.k, hR.f13.k, hR.f14.k, hR.f15.k, hR.f16.k, hR.f17.k, hR.f18.k, hR.f19.k, hR.f20.k, hR.f21.k, hR.w2.o, hR.w3.o, hR.w4.o, hR.w5.o, hR.w6.o, (fun _ j hj => upd_on (hw j hj)), hR.w8.o, hR.w9.o, hR.w10.o, hR.w11.o, hR.w12.o, hR.w13.o, hR.w14.o, hR.w15.o, hR.w16.o, hR.w17.o, hR.w18.o, hR.w19.o, hR.w20.o, hR.w21.o⟩⟩
   refine EachOf.cons [4, 5, 7] rfl (by kernel_rfl) ?_ ?_
   ·rintro L A W ⟨v, rfl, hR⟩ hi hw K hK
    have e5 := hR.f5 (hw 5 (by simp))
    have e7 := hR.f7 (hw 7 (by simp))
    have e4 := hR.f4 (hw 4 (by simp))
    simp only [e5, e7, e4]
    clear e5 e7 e4
    go_simp
    go_at_call 33
    (with_reducible refine (((C2 W (hR.st))).out.mono ?_))
    rintro e w2 ⟨rfl, hb⟩
    go_simp
    refine hK.out _ _ ?_
    exact ⟨(fun jz => if jz = 88 then .slice (some ⟨ab, 0, none⟩) (p.n + 1) (p.n + 1) else if jz = 90 then .slice p.ca p.n p.cc else if jz = 87 then .bool true else if jz = 91 then .bool true else v jz), rfl, ⟨below_on hR.st hb, hR.f0.k, hR.f1.k, hR.f2.k, hR.f3.k, (fun _ => rfl), (fun _ => rfl), hR.f6.k, (fun _ => rfl), (fun _ => rfl), hR.f9.k, hR.f10.k, hR.f11.k, hR.f12.k, hR.f13.k, hR.f14.k, hR.f15.k, hR.f16.k, hR.f17.k, hR.f18.k, hR.f19.k, hR.f20.k, hR.f21.k, hR.w2.o, hR.w3.o, hR.w4.o, hR.w5.o, hR.w6.o, hR.w7.o, (fun _ j hj => upd_on (hw j hj)), hR.w9.o, hR.w10.o, hR.w11.o, hR.w12.o, hR.w13.o, hR.w14.o, hR.w15.o, hR.w16.o, hR.w17.o, hR.w18.o, hR.w19.o, hR.w20.o, hR.w21.o⟩⟩
   refine EachOf.cons [4, 8] rfl (by kernel_rfl) ?_ ?_
   ·rintro L A W ⟨v, rfl, hR⟩ hi hw K hK
    have e4 := hR.f4 (hw 4 (by simp))
    have e8 := hR.f8 (hw 8 (by simp))
    simp only [e4, e8]
    clear e4 e8
    go_simp
    refine hK.out _ _ ?_
    exact ⟨(fun jz => if jz = 87 then .bool true else if jz = 91 then .bool true else if jz = 92 then .bool true else v jz), rfl, ⟨hR.st, hR.f0.k, hR.f1.k, hR.f2.k, hR.f3.k, (fun _ => rfl), hR.f5.k, hR.f6.k, hR.f7.k, (fun _ => rfl), (fun _ => rfl), hR.f10.k, hR.f11.k, hR.f12.k, hR.f13.k, hR.f14.k, hR.f15.k, hR.f16.k, hR.f17.k, hR.f18.k, hR.f19.k, hR.f20.k, hR.f21.k, hR.w2.o, hR.w3.o, hR.w4.o, hR.w5.o, hR.w6.o, hR.w7.o, hR.w8.o, (fun _ j hj => upd_on (hw j hj)), hR.w10.o, hR.w11.o, hR.w12.o, hR.w13.o, hR.w14.o, hR.w15.o, hR.w16.o, hR.w17.o, hR.w18.o, hR.w19.o, hR.w20.o, hR.w21.o⟩⟩
   refine EachOf.cons [9] rfl (by kernel_rfl) ?_ ?_
   ·rintro L A W ⟨v, rfl, hR⟩ hi hw K hK
    have e9 := hR.f9 (hw 9 (by simp))
    simp only [e9]
    clear e9
    go_simp
    refine hK.out _ _ ?_
    exact ⟨(fun jz => if jz = 92 then .bool true else if jz = 93 then .bool true else v jz), rfl, ⟨hR.st, hR.f0.k, hR.f1.k, hR.f2.k, hR.f3.k, hR.f4.k, hR.f5.k, hR.f6.k, hR.f7.k, hR.f8.k, (fun _ => rfl), (fun _ => rfl), hR.f11.k, hR.f12.k, hR.f13.k, hR.f14.k, hR.f15.k, hR.f16.k, hR.f17.k, hR.f18.k, hR.f19.k, hR.f20.k, hR.f21.k, hR.w2.o, hR.w3.o, hR.w4.o, hR.w5.o, hR.w6.o, hR.w7.o, hR.w8.o, hR.w9.o, (fun _ j hj => upd_on (hw j hj)), hR.w11.o, hR.w12.o, hR.w13.o, hR.w14.o, hR.w15.o, hR.w16.o, hR.w17.o, hR.w18.o, hR.w19.o, hR.w20.o, hR.w21.o⟩⟩
   refine EachOf.cons [10] rfl (by kernel_rfl) ?_ ?_
   ·rintro L A W ⟨v, rfl, hR⟩ hi hw K hK
    have e10 := hR.f10 (hw 10 (by simp))
    simp only [e10]
    clear e10
    go_simp
    refine hK.out _ _ ?_
    exact ⟨(fun jz => if jz = 93 then .bool true else if jz = 94 then .slice (some ⟨ab, 0, none⟩) (p.n + 1) (p.n + 1) else v jz), rfl, ⟨hR.st, hR.f0.k, hR.f1.k, hR.f2.k, hR.f3.k, hR.f4.k, hR.f5.k, hR.f6.k, hR.f7.k, hR.f8.k, hR.f9.k, (fun _ => rfl), (fun _ => rfl), hR.f12.k, hR.f13.k, hR.f14.k, hR.f15.k, hR.f16.k, hR.f17.k, hR.f18.k, hR.f19.k, hR.f20.k, hR.f21.k, hR.w2.o, hR.w3.o, hR.w4.o, hR.w5.o, hR.w6.o, hR.w7.o, hR.w8.o, hR.w9.o, hR.w10.o, (fun _ j hj => upd_on (hw j hj)), hR.w12.o, hR.w13.o, hR.w14.o, hR.w15.o, hR.w16.o, hR.w17.o, hR.w18.o, hR.w19.o, hR.w20.o, hR.w21.o⟩⟩
   refine EachOf.cons [10] rfl (by kernel_rfl) ?_ ?_
   ·rintro L A W ⟨v, rfl, hR⟩ hi hw K hK
    have e10 := hR.f10 (hw 10 (by simp))
    simp only [e10]
    clear e10
    go_simp
    refine hK.out _ _ ?_
    exact ⟨(fun jz => if jz = 93 then .bool true else if jz = 95 then .pointer (some ⟨xb, 0, none⟩) else v jz), rfl, ⟨hR.st, hR.f0.k, hR.f1.k, hR.f2.k, hR.f3.k, hR.f4.k, hR.f5.k, hR.f6.k, hR.f7.k, hR.f8.k, hR.f9.k, (fun _ => rfl), hR.f11.k, (fun _ => rfl), hR.f13.k, hR.f14.k, hR.f15.k, hR.f16.k, hR.f17.k, hR.f18.k, hR.f19.k, hR.f20.k, hR.f21.k, hR.w2.o, hR.w3.o, hR.w4.o, hR.w5.o, hR.w6.o, hR.w7.o, hR.w8.o, hR.w9.o, hR.w10.o, hR.w11.o, (fun _ j hj => upd_on (hw j hj)), hR.w13.o, hR.w14.o, hR.w15.o, hR.w16.o, hR.w17.o, hR.w18.o, hR.w19.o, hR.w20.o, hR.w21.o⟩⟩
   refine EachOf.cons [10, 12] rfl (by kernel_rfl) ?_ ?_
   ·rintro L A W ⟨v, rfl, hR⟩ hi hw K hK
    have e12 := hR.f12 (hw 12 (by simp))
    have e10 := hR.f10 (hw 10 (by simp))
    simp only [e12, e10]
    clear e12 e10
    have q0 := (hR.st.cell (p := ⟨xb, 0, none⟩) LP0.out.2).trans LP0.out.1
    go_simp
    refine hK.out _ _ ?_
    exact ⟨(fun jz => if jz = 95 then .pointer (some ⟨xb, 0, none⟩) else if jz = 93 then .bool true else if jz = 96 then .slice p.ca p.n p.cc else v jz), rfl, ⟨hR.st, hR.f0.k, hR.f1.k, hR.f2.k, hR.f3.k, hR.f4.k, hR.f5.k, hR.f6.k, hR.f7.k, hR.f8.k, hR.f9.k, (fun _ => rfl), hR.f11.k, (fun _ => rfl), (fun _ => rfl), hR.f14.k, hR.f15.k, hR.f16.k, hR.f17.k, hR.f18.k, hR.f19.k, hR.f20.k, hR.f21.k, hR.w2.o, hR.w3.o, hR.w4.o, hR.w5.o, hR.w6.o, hR.w7.o, hR.w8.o, hR.w9.o, hR.w10.o, hR.w11.o, hR.w12.o, (fun _ j hj => upd_on (hw j hj)), hR.w14.o, hR.w15.o, hR.w16.o, hR.w17.o, hR.w18.o, hR.w19.o, hR.w20.o, hR.w21.o⟩⟩
   refine EachOf.cons [10, 13] rfl (by kernel_rfl) ?_ ?_
   ·rintro L A W ⟨v, rfl, hR⟩ hi hw K hK
    have e13 := hR.f13 (hw 13 (by simp))
    have e10 := hR.f10 (hw 10 (by simp))
    simp only [e13, e10]
    clear e13 e10
    go_simp
    refine hK.out _ _ ?_
    exact ⟨(fun jz => if jz = 96 then .slice p.ca p.n p.cc else if jz = 93 then .bool true else if jz = 97 then .int .i64 (p.n : Int) else v jz), rfl, ⟨hR.st, hR.f0.k, hR.f1.k, hR.f2.k, hR.f3.k, hR.f4.k, hR.f5.k, hR.f6.k, hR.f7.k, hR.f8.k, hR.f9.k, (fun _ => rfl), hR.f11.k, hR.f12.k, (fun _ => rfl), (fun _ => rfl), hR.f15.k, hR.f16.k, hR.f17.k, hR.f18.k, hR.f19.k, hR.f20.k, hR.f21.k, hR.w2.o, hR.w3.o, hR.w4.o, hR.w5.o, hR.w6.o, hR.w7.o, hR.w8.o, hR.w9.o, hR.w10.o, hR.w11.o, hR.w12.o, hR.w13.o, (fun _ j hj => upd_on (hw j hj)), hR.w15.o, hR.w16.o, hR.w17.o, hR.w18.o, hR.w19.o, hR.w20.o, hR.w21.o⟩⟩
   refine EachOf.cons [10, 11, 14] rfl (by kernel_rfl) ?_ ?_
   ·rintro L A W ⟨v, rfl, hR⟩ hi hw K hK
    have e11 := hR.f11 (hw 11 (by simp))
    have e14 := hR.f14 (hw 14 (by simp))
    have e10 := hR.f10 (hw 10 (by simp))
    simp only [e11, e14, e10]
    clear e11 e14 e10
    go_simp
    refine hK.out _ _ ?_
    exact ⟨(fun jz => if jz = 94 then .slice (some ⟨ab, 0, none⟩) (p.n + 1) (p.n + 1) else if jz = 97 then .int .i64 (p.n : Int) else if jz = 93 then .bool true else if jz = 98 then .pointer (some ⟨ab, p.n * 2, none⟩) else v jz), rfl, ⟨hR.st, hR.f0.k, hR.f1.k, hR.f2.k, hR.f3.k, hR.f4.k, hR.f5.k, hR.f6.k, hR.f7.k, hR.f8.k, hR.f9.k, (fun _ => rfl), (fun _ => rfl), hR.f12.k, hR.f13.k, (fun _ => rfl), (fun _ => rfl), hR.f16.k, hR.f17.k, hR.f18.k, hR.f19.k, hR.f20.k, hR.f21.k, hR.w2.o, hR.w3.o, hR.w4.o, hR.w5.o, hR.w6.o, hR.w7.o, hR.w8.o, hR.w9.o, hR.w10.o, hR.w11.o, hR.w12.o, hR.w13.o, hR.w14.o, (fun _ j hj => upd_on (hw j hj)), hR.w16.o, hR.w17.o, hR.w18.o, hR.w19.o, hR.w20.o, hR.w21.o⟩⟩
   refine EachOf.cons [10, 15] rfl (by kernel_rfl) ?_ ?_
   ·rintro L A W ⟨v, rfl, hR⟩ hi hw K hK
    have e15 := hR.f15 (hw 15 (by simp))
    have e10 := hR.f10 (hw 10 (by simp))
    simp only [e15, e10]
    clear e15 e10
    have q0 := (hR.st.cell (p := ⟨ab, p.n * 2, none⟩) LT0.out.2).trans LT0.out.1
    have q1 := (hR.st.cell (p := ⟨ab, p.n * 2 + 1, none⟩) LT1.out.2).trans LT1.out.1
    go_simp
    refine hK.out _ _ ?_
    exact ⟨(fun jz => if jz = 98 then .pointer (some ⟨ab, p.n * 2, none⟩) else if jz = 93 then .bool true else if jz = 99 then .agg #[.int .i64 a, .int .i64 d] else v jz), rfl, ⟨hR.st, hR.f0.k, hR.f1.k, hR.f2.k, hR.f3.k, hR.f4.k, hR.f5.k, hR.f6.k, hR.f7.k, hR.f8.k, hR.f9.k, (fun _ => rfl), hR.f11.k, hR.f12.k, hR.f13.k, hR.f14.k, (fun _ => rfl), (fun _ => rfl), hR.f17.k, hR.f18.k, hR.f19.k, hR.f20.k, hR.f21.k, hR.w2.o, hR.w3.o, hR.w4.o, hR.w5.o, hR.w6.o, hR.w7.o, hR.w8.o, hR.w9.o, hR.w10.o, hR.w11.o, hR.w12.o, hR.w13.o, hR.w14.o, hR.w15.o, (fun _ j hj => upd_on (hw j hj)), hR.w17.o, hR.w18.o, hR.w19.o, hR.w20.o, hR.w21.o⟩⟩
   refine EachOf.cons [10] rfl (by kernel_rfl) ?_ ?_
   ·rintro L A W ⟨v, rfl, hR⟩ hi hw K hK
    have e10 := hR.f10 (hw 10 (by simp))
    simp only [e10]
    clear e10
    go_simp
    refine hK.out _ _ ?_
    exact ⟨(fun jz => if jz = 93 then .bool true else if jz = 100 then .pointer (some ⟨kb, 0, none⟩) else v jz), rfl, ⟨hR.st, hR.f0.k, hR.f1.k, hR.f2.k, hR.f3.k, hR.f4.k, hR.f5.k, hR.f6.k, hR.f7.k, hR.f8.k, hR.f9.k, (fun _ => rfl), hR.f11.k, hR.f12.k, hR.f13.k, hR.f14.k, hR.f15.k, hR.f16.k, (fun _ => rfl), hR.f18.k, hR.f19.k, hR.f20.k, hR.f21.k, hR.w2.o, hR.w3.o, hR.w4.o, hR.w5.o, hR.w6.o, hR.w7.o, hR.w8.o, hR.w9.o, hR.w10.o, hR.w11.o, hR.w12.o, hR.w13.o, hR.w14.o, hR.w15.o, hR.w16.o, (fun _ j hj => upd_on (hw j hj)), hR.w18.o, hR.w19.o, hR.w20.o, hR.w21.o⟩⟩
   refine EachOf.cons [10, 17] rfl (by kernel_rfl) ?_ ?_
   ·rintro L A W ⟨v, rfl, hR⟩ hi hw K hK
    have e17 := hR.f17 (hw 17 (by simp))
    have e10 := hR.f10 (hw 10 (by simp))
    simp only [e17, e10]
    clear e17 e10
    have q0 := (hR.st.cell (p := ⟨kb, 0, none⟩) LV0.out.2).trans LV0.out.1
    have q1 := (hR.st.cell (p := ⟨kb, 1, none⟩) LV1.out.2).trans LV1.out.1
    go_simp
    refine hK.out _ _ ?_
    exact ⟨(fun jz => if jz = 100 then .pointer (some ⟨kb, 0, none⟩) else if jz = 93 then .bool true else if jz = 101 then .agg #[.int .i64 va, .int .i64 vd] else v jz), rfl, ⟨hR.st, hR.f0.k, hR.f1.k, hR.f2.k, hR.f3.k, hR.f4.k, hR.f5.k, hR.f6.k, hR.f7.k, hR.f8.k, hR.f9.k, (fun _ => rfl), hR.f11.k, hR.f12.k, hR.f13.k, hR.f14.k, hR.f15.k, hR.f16.k, (fun _ => rfl), (fun _ => rfl), hR.f19.k, hR.f20.k, hR.f21.k, hR.w2.o, hR.w3.o, hR.w4.o, hR.w5.o, hR.w6.o, hR.w7.o, hR.w8.o, hR.w9.o, hR.w10.o, hR.w11.o, hR.w12.o, hR.w13.o, hR.w14.o, hR.w15.o, hR.w16.o, hR.w17.o, (fun _ j hj => upd_on (hw j hj)), hR.w19.o, hR.w20.o, hR.w21.o⟩⟩
   refine EachOf.cons [10, 16, 18] rfl (by kernel_rfl) ?_ ?_
   ·rintro L A W ⟨v, rfl, hR⟩ hi hw K hK
    have e16 := hR.f16 (hw 16 (by simp))
    have e18 := hR.f18 (hw 18 (by simp))
    have e10 := hR.f10 (hw 10 (by simp))
    simp only [e16, e18, e10]
    clear e16 e18 e10
    go_simp
    rw [HIF.out]
    go_simp
    refine hK.out _ _ ?_
    exact ⟨(fun jz => if jz = 99 then .agg #[.int .i64 a, .int .i64 d] else if jz = 101 then .agg #[.int .i64 va, .int .i64 vd] else if jz = 93 then .bool true else if jz = 102 then .bool false else v jz), rfl, ⟨hR.st, hR.f0.k, hR.f1.k, hR.f2.k, hR.f3.k, hR.f4.k, hR.f5.k, hR.f6.k, hR.f7.k, hR.f8.k, hR.f9.k, (fun _ => rfl), hR.f11.k, hR.f12.k, hR.f13.k, hR.f14.k, hR.f15.k, (fun _ => rfl), hR.f17.k, (fun _ => rfl), (fun _ => rfl), hR.f20.k, hR.f21.k, hR.w2.o, hR.w3.o, hR.w4.o, hR.w5.o, hR.w6.o, hR.w7.o, hR.w8.o, hR.w9.o, hR.w10.o, hR.w11.o, hR.w12.o, hR.w13.o, hR.w14.o, hR.w15.o, hR.w16.o, hR.w17.o, hR.w18.o, (fun _ j hj => upd_on (hw j hj)), hR.w20.o, hR.w21.o⟩⟩
   refine EachOf.cons [10, 19] rfl (by kernel_rfl) ?_ ?_
   ·rintro L A W ⟨v, rfl, hR⟩ hi hw K hK
    have e10 := hR.f10 (hw 10 (by simp))
    have e19 := hR.f19 (hw 19 (by simp))
    simp only [e10, e19]
    clear e10 e19
    go_simp
    refine hK.out _ _ ?_
    exact ⟨(fun jz => if jz = 93 then .bool true else if jz = 102 then .bool false else if jz = 103 then .bool false else v jz), rfl, ⟨hR.st, hR.f0.k, hR.f1.k, hR.f2.k, hR.f3.k, hR.f4.k, hR.f5.k, hR.f6.k, hR.f7.k, hR.f8.k, hR.f9.k, (fun _ => rfl), hR.f11.k, hR.f12.k, hR.f13.k, hR.f14.k, hR.f15.k, hR.f16.k, hR.f17.k, hR.f18.k, (fun _ => rfl), (fun _ => rfl), hR.f21.k, hR.w2.o, hR.w3.o, hR.w4.o, hR.w5.o, hR.w6.o, hR.w7.o, hR.w8.o, hR.w9.o, hR.w10.o, hR.w11.o, hR.w12.o, hR.w13.o, hR.w14.o, hR.w15.o, hR.w16.o, hR.w17.o, hR.w18.o, hR.w19.o, (fun _ j hj => upd_on (hw j hj)), hR.w21.o⟩⟩
   refine EachOf.cons [20] rfl (by kernel_rfl) ?_ ?_
   ·rintro L A W ⟨v, rfl, hR⟩ hi hw K hK
    have e20 := hR.f20 (hw 20 (by simp))
    simp only [e20]
    clear e20
    go_simp
    refine hK.out _ _ ?_
    exact ⟨(fun jz => if jz = 103 then .bool false else if jz = 13 then .bool false else v jz), rfl, ⟨hR.st, hR.f0.k, hR.f1.k, hR.f2.k, hR.f3.k, hR.f4.k, hR.f5.k, hR.f6.k, hR.f7.k, hR.f8.k, hR.f9.k, hR.f10.k, hR.f11.k, hR.f12.k, hR.f13.k, hR.f14.k, hR.f15.k, hR.f16.k, hR.f17.k, hR.f18.k, hR.f19.k, (fun _ => rfl), (fun _ => rfl), hR.w2.o, hR.w3.o, hR.w4.o, hR.w5.o, hR.w6.o, hR.w7.o, hR.w8.o, hR.w9.o, hR.w10.o, hR.w11.o, hR.w12.o, hR.w13.o, hR.w14.o, hR.w15.o, hR.w16.o, hR.w17.o, hR.w18.o, hR.w19.o, hR.w20.o, (fun _ j hj => upd_on (hw j hj))⟩⟩
   exact EachOf.nil
  rintro L A W ⟨v, rfl, hR⟩ hL
  have e21 := hR.f21 (hL 21 (by simp))
  simp only [e21]
  have HVB := Lib.hid (HVB.out.on hR.st)
  have HKB := Lib.hid (HKB.out.on hR.st)
  have HB := Lib.hid (below_on HB.out hR.st)
  clear e21 hR hL C1 C2 LP0 LP1 LY LV0 LV1 LT0 LT1 HXB
  obtain ⟨_, b0, b1⟩ := HVB.out
  have k0 := HKB.out.c0
  have k1 := HKB.out.c1
  cases fv
  ·go_wp2_with fail
   go_ret2
   (first | exact ⟨HB.out, false, 0, rfl, .inr (.inr (.inr ⟨hok, HFV.out.1, HFV.out.2.1, HFV.out.2.2, rfl, rfl, HCF.out, ⟨fun h => (by cases h), fun h => absurd h HNO.out⟩, rfl⟩))⟩ | exact ⟨HB.out, .inl ⟨0, rfl, .inr (.inr (.inr ⟨hok, HFV.out.1, HFV.out.2.1, HFV.out.2.2, rfl, rfl, HCF.out, ⟨fun h => (by cases h), fun h => absurd h HNO.out⟩, rfl⟩))⟩⟩)
  ·by_cases h1 : ra = va
   ·subst h1
    by_cases h2 : rd = vd
    ·subst h2
     go_wp2_with fail
     go_ret2
     (first | exact ⟨HB.out, false, 0, rfl, .inr (.inr (.inr ⟨hok, HFV.out.1, HFV.out.2.1, HFV.out.2.2, rfl, rfl, HCF.out, ⟨fun h => (by cases h), fun h => absurd h HNO.out⟩, rfl⟩))⟩ | exact ⟨HB.out, .inl ⟨0, rfl, .inr (.inr (.inr ⟨hok, HFV.out.1, HFV.out.2.1, HFV.out.2.2, rfl, rfl, HCF.out, ⟨fun h => (by cases h), fun h => absurd h HNO.out⟩, rfl⟩))⟩⟩)
    ·go_wp2_with fail
     go_ret2
     (first | exact ⟨HB.out, false, 0, rfl, .inr (.inr (.inr ⟨hok, HFV.out.1, HFV.out.2.1, HFV.out.2.2, rfl, rfl, HCF.out, ⟨fun h => (by cases h), fun h => absurd h HNO.out⟩, rfl⟩))⟩ | exact ⟨HB.out, .inl ⟨0, rfl, .inr (.inr (.inr ⟨hok, HFV.out.1, HFV.out.2.1, HFV.out.2.2, rfl, rfl, HCF.out, ⟨fun h => (by cases h), fun h => absurd h HNO.out⟩, rfl⟩))⟩⟩)
   ·go_wp2_with fail
    go_ret2
    (first | exact ⟨HB.out, false, 0, rfl, .inr (.inr (.inr ⟨hok, HFV.out.1, HFV.out.2.1, HFV.out.2.2, rfl, rfl, HCF.out, ⟨fun h => (by cases h), fun h => absurd h HNO.out⟩, rfl⟩))⟩ | exact ⟨HB.out, .inl ⟨0, rfl, .inr (.inr (.inr ⟨hok, HFV.out.1, HFV.out.2.1, HFV.out.2.2, rfl, rfl, HCF.out, ⟨fun h => (by cases h), fun h => absurd h HNO.out⟩, rfl⟩))⟩⟩)
 have hif : ∀ (α : Type) (x y : α), (if a = va then if d = vd then x else y else y) = x := fun α x y => by rw [if_pos had.1, if_pos had.2]
 have HIF := Lib.hid hif
 have HHAD := Lib.hid had
 clear hif had
 refine wp_region_each (fun L A W => ∃ (v : Nat → Value), A = ⟨#[_, _, _, _, _, _, _, _, _, _, _, _, _, v 13, _, _, _, _, _, _, _, _, _, _, _, _, _, _, _, _, _, _, _, _, _, _, _, _, _, _, _, _, _, _, _, _, _, _, _, _, _, _, _, _, _, _, _, _, _, _, _, _, _, _, _, _, _, _, _, _, _, _, _, _, _, _, _, _, _, _, _, _, _, v 83, v 84, v 85, v 86, v 87, v 88, v 89, v 90, v 91, v 92, v 93, v 94, v 95, v 96, v 97, v 98, v 99, v 100, v 101, v 102, v 103, _, _, _, _, _, _, _, _, _, _], []⟩ ∧ CkCR xb kb ab p.n p.m p.cc p.rc yc p.ca p.ra ya a d va vd wc L v W) (by kernel_rfl) (by kernel_rfl) ⟨fun jz => if jz = 83 then undef else if jz = 84 then undef else if jz = 85 then undef else if jz = 86 then undef else if jz = 87 then undef else if jz = 88 then undef else if jz = 89 then undef else if jz = 90 then undef else if jz = 91 then undef else if jz = 92 then undef else if jz = 93 then undef else if jz = 94 then undef else if jz = 95 then undef else if jz = 96 then undef else if jz = 97 then undef else if jz = 98 then undef else if jz = 99 then undef else if jz = 100 then undef else if jz = 101 then undef else if jz = 102 then undef else if jz = 103 then undef else if jz = 13 then undef else undef, rfl, ⟨Below.drew (Below.refl _ _), Had.none, Had.none, Had.none, Had.none, Had.none, Had.none, Had.none, Had.none, Had.none, Had.none, Had.none, Had.none, Had.none, Had.none, Had.none, Had.none, Had.none, Had.none, Had.none, Had.none, Had.none, Had.none, Had.none, Had.none, Had.none, Had.none, Had.none, Had.none, Had.none, Had.none, Had.none, Had.none, Had.none, Had.none, Had.none, Had.none, Had.none, Had.none, Had.none, Had.none, Had.none, Had.none⟩⟩ (rs := [0, 1, 2, 3, 4, 5, 6, 7, 8, 9, 10, 11, 12, 13, 14, 15, 16, 17, 18, 19, 20, 21]) (by kernel_rfl) ?_ ?_
 ·refine EachOf.cons [] rfl (by kernel_rfl) ?_ ?_
  ·rintro L A W ⟨v, rfl, hR⟩ hi hw K hK
   have q0 := (hR.st.cell (p := ⟨xb, 0, none⟩) LP0.out.2).trans LP0.out.1
   have q1 := (hR.st.cell (p := ⟨xb, 1, none⟩) LP1.out.2).trans LP1.out.1
   go_simp
   refine hK.out _ _ ?_
   exact ⟨(fun jz => if jz = 83 then .agg #[.slice p.ca p.n p.cc, .slice p.ra p.m p.rc] else v jz), rfl, ⟨hR.st, (fun _ => rfl), hR.f1.k, hR.f2.k, hR.f3.k, hR.f4.k, hR.f5.k, hR.f6.k, hR.f7.k, hR.f8.k, hR.f9.k, hR.f10.k, hR.f11.k, hR.f12.k, hR.f13.k, hR.f14.k, hR.f15.k, hR.f16.k, hR.f17.k, hR.f18.k, hR.f19.k, hR.f20.k, hR.f21.k, hR.w2.o, hR.w3.o, hR.w4.o, hR.w5.o, hR.w6.o, hR.w7.o, hR.w8.o, hR.w9.o, hR.w10.o, hR.w11.o, hR.w12.o, hR.w13.o, hR.w14.o, hR.w15.o, hR.w16.o, hR.w17.o, hR.w18.o, hR.w19.o, hR.w20.o, hR.w21.o⟩⟩
  refine EachOf.cons [] rfl (by kernel_rfl) ?_ ?_
  ·rintro L A W ⟨v, rfl, hR⟩ hi hw K hK
   go_simp
   refine hK.out _ _ ?_
   exact ⟨(fun jz => if jz = 84 then .pointer (some ⟨kb, 3, none⟩) else v jz), rfl, ⟨hR.st, hR.f0.k, (fun _ => rfl), hR.f2.k, hR.f3.k, hR.f4.k, hR.f5.k, hR.f6.k, hR.f7.k, hR.f8.k, hR.f9.k, hR.f10.k, hR.f11.k, hR.f12.k, hR.f13.k, hR.f14.k, hR.f15.k, hR.f16.k, hR.f17.k, hR.f18.k, hR.f19.k, hR.f20.k, hR.f21.k, hR.w2.o, hR.w3.o, hR.w4.o, hR.w5.o, hR.w6.o, hR.w7.o, hR.w8.o, hR.w9.o, hR.w10.o, hR.w11.o, hR.w12.o, hR.w13.o, hR.w14.o, hR.w15.o, hR.w16.o, hR.w17.o, hR.w18.o, hR.w19.o, hR.w20.o, hR.w21.o⟩⟩
  refine EachOf.cons [1] rfl (by kernel_rfl) ?_ ?_
  ·rintro L A W ⟨v, rfl, hR⟩ hi hw K hK
   have e1 := hR.f1 (hw 1 (by simp))
   simp only [e1]
   clear e1
   have q0 := (hR.st.cell (p := ⟨kb, 3, none⟩) LY.out.2).trans LY.out.1
   go_simp
   refine hK.out _ _ ?_
   exact ⟨(fun jz => if jz = 84 then .pointer (some ⟨kb, 3, none⟩) else if jz = 85 then .slice ya p.m yc else v jz), rfl, ⟨hR.st, hR.f0.k, (fun _ => rfl), (fun _ => rfl), hR.f3.k, hR.f4.k, hR.f5.k, hR.f6.k, hR.f7.k, hR.f8.k, hR.f9.k, hR.f10.k, hR.f11.k, hR.f12.k, hR.f13.k, hR.f14.k, hR.f15.k, hR.f16.k, hR.f17.k, hR.f18.k, hR.f19.k, hR.f20.k, hR.f21.k, (fun _ j hj => upd_on (hw j hj)), hR.w3.o, hR.w4.o, hR.w5.o, hR.w6.o, hR.w7.o, hR.w8.o, hR.w9.o, hR.w10.o, hR.w11.o, hR.w12.o, hR.w13.o, hR.w14.o, hR.w15.o, hR.w16.o, hR.w17.o, hR.w18.o, hR.w19.o, hR.w20.o, hR.w21.o⟩⟩
  refine EachOf.cons [0, 2] rfl (by kernel_rfl) ?_ ?_
  ·rintro L A W ⟨v, rfl, hR⟩ hi hw K hK
   have e0 := hR.f0 (hw 0 (by simp))
   have e2 := hR.f2 (hw 2 (by simp))
   simp only [e0, e2]
   clear e0 e2
   go_simp
   go_at_call 32
   (with_reducible refine (((C1 W (hR.st))).out.mono ?_))
   rintro e w2 ⟨rfl, hb⟩
   go_simp
   refine hK.out _ _ ?_
   exact ⟨(fun jz => if jz = 83 then .agg #[.slice p.ca p.n p.cc, .slice p.ra p.m p.rc] else if jz = 85 then .slice ya p.m yc else if jz = 86 then .bool true else v jz), rfl, ⟨below_on hR.st hb, (fun _ => rfl), hR.f1.k, (fun _ => rfl), (fun _ => rfl), hR.f4.k, hR.f5.k, hR.f6.k, hR.f7.k, hR.f8.k, hR.f9.k, hR.f10.k, hR.f11.k, hR.f12.k, hR.f13.k, hR.f14.k, hR.f15.k, hR.f16.k, hR.f17.k, hR.f18.k, hR.f19.k, hR.f20.k, hR.f21.k, hR.w2.o, (fun _ j hj => upd_on (hw j hj)), hR.w4.o, hR.w5.o, hR.w6.o, hR.w7.o, hR.w8.o, hR.w9.o, hR.w10.o, hR.w11.o, hR.w12.o, hR.w13.o, hR.w14.o, hR.w15.o, hR.w16.o, hR.w17.o, hR.w18.o, hR.w19.o, hR.w20.o, hR.w21.o⟩⟩
  refine EachOf.cons [3] rfl (by kernel_rfl) ?_ ?_
  ·rintro L A W ⟨v, rfl, hR⟩ hi hw K hK
   have e3 := hR.f3 (hw 3 (by simp))
   simp only [e3]
   clear e3
   go_simp
   refine hK.out _ _ ?_
   exact ⟨(fun jz => if jz = 86 then .bool true else if jz = 87 then .bool true else v jz), rfl, ⟨hR.st, hR.f0.k, hR.f1.k, hR.f2.k, (fun _ => rfl), (fun _ => rfl), hR.f5.k, hR.f6.k, hR.f7.k, hR.f8.k, hR.f9.k, hR.f10.k, hR.f11.k, hR.f12.k, hR.f13.k, hR.f14.k, hR.f15.k, hR.f16.k, hR.f17.k, hR.f18.k, hR.f19.k, hR.f20.k, hR.f21.k, hR.w2.o, hR.w3.o, (fun _ j hj => upd_on (hw j hj)), hR.w5.o, hR.w6.o, hR.w7.o, hR.w8.o, hR.w9.o, hR.w10.o, hR.w11.o, hR.w12.o, hR.w13.o, hR.w14.o, hR.w15.o, hR.w16.o, hR.w17.o, hR.w18.o, hR.w19.o, hR.w20.o, hR.w21.o⟩⟩
  refine EachOf.cons [4] rfl (by kernel_rfl) ?_ ?_
  ·rintro L A W ⟨v, rfl, hR⟩ hi hw K hK
   have e4 := hR.f4 (hw 4 (by simp))
   simp only [e4]
   clear e4
   go_simp
   refine hK.out _ _ ?_
   exact ⟨(fun jz => if jz = 87 then .bool true else if jz = 88 then .slice (some ⟨ab, 0, none⟩) (p.n + 1) (p.n + 1) else v jz), rfl, ⟨hR.st, hR.f0.k, hR.f1.k, hR.f2.k, hR.f3.k, (fun _ => rfl), (fun _ => rfl), hR.f6.k, hR.f7.k, hR.f8.k, hR.f9.k, hR.f10.k, hR.f11.k, hR.f12.k, hR.f13.k, hR.f14.k, hR.f15.k, hR.f16.k, hR.f17.k, hR.f18.k, hR.f19.k, hR.f20.k, hR.f21.k, hR.w2.o, hR.w3.o, hR.w4.o, (fun _ j hj => upd_on (hw j hj)), hR.w6.o, hR.w7.o, hR.w8.o, hR.w9.o, hR.w10.o, hR.w11.o, hR.w12.o, hR.w13.o, hR.w14.o, hR.w15.o, hR.w16.o, hR.w17.o, hR.w18.o, hR.w19.o, hR.w20.o, hR.w21.o⟩⟩
  refine EachOf.cons [4] rfl (by kernel_rfl) ?_ ?_
  ·rintro L A W ⟨v, rfl, hR⟩ hi hw K hK
   have e4 := hR.f4 (hw 4 (by simp))
   simp only [e4]
   clear e4
   go_simp
   refine hK.out _ _ ?_
   exact ⟨(fun jz => if jz = 87 then .bool true else if jz = 89 then .pointer (some ⟨xb, 0, none⟩) else v jz), rfl, ⟨hR.st, hR.f0.k, hR.f1.k, hR.f2.k, hR.f3.k, (fun _ => rfl), hR.f5.k, (fun _ => rfl), hR.f7.k, hR.f8.k, hR.f9.k, hR.f10.k, hR.f11.k, hR.f12.k, hR.f13.k, hR.f14.k, hR.f15.k, hR.f16.k, hR.f17.k, hR.f18.k, hR.f19.k, hR.f20.k, hR.f21.k, hR.w2.o, hR.w3.o, hR.w4.o, hR.w5.o, (fun _ j hj => upd_on (hw j hj)), hR.w7.o, hR.w8.o, hR.w9.o, hR.w10.o, hR.w11.o, hR.w12.o, hR.w13.o, hR.w14.o, hR.w15.o, hR.w16.o, hR.w17.o, hR.w18.o, hR.w19.o, hR.w20.o, hR.w21.o⟩⟩
  refine EachOf.cons [4, 6] rfl (by kernel_rfl) ?_ ?_
  ·rintro L A W ⟨v, rfl, hR⟩ hi hw K hK
   have e6 := hR.f6 (hw 6 (by simp))
   have e4 := hR.f4 (hw 4 (by simp))
   simp only [e6, e4]
   clear e6 e4
   have q0 := (hR.st.cell (p := ⟨xb, 0, none⟩) LP0.out.2).trans LP0.out.1
   go_simp
   refine hK.out _ _ ?_
   exact ⟨(fun jz => if jz = 89 then .pointer (some ⟨xb, 0, none⟩) else if jz = 87 then .bool true else if jz = 90 then .slice p.ca p.n p.cc else v jz), rfl, ⟨hR.st, hR.f0.k, hR.f1.k, hR.f2.k, hR.f3.k, (fun _ => rfl), hR.f5.k, (fun _ => rfl), (fun _ => rfl), hR.f8.k, hR.f9.k, hR.f10.k, hR.f11.k, hR.f12.k, hR.f13.k, hR.f14.k, hR.f15.k, hR.f16.k, hR.f17.k, hR.f18.k, hR.f19.k, hR.f20.k, hR.f21.k, hR.w2.o, hR.w3.o, hR.w4.o, hR.w5.o, hR.w6.o, (fun _ j hj => upd_on (hw j hj)), hR.w8.o, hR.w9.o, hR.w10.o, hR.w11.o, hR.w12.o, hR.w13.o, hR.w14.o, hR.w15.o, hR.w16.o, hR.w17.o, hR.w18.o, hR.w19.o, hR.w20.o, hR.w21.o⟩⟩
  refine EachOf.cons [4, 5, 7] rfl (by kernel_rfl) ?_ ?_
  ·rintro L A W ⟨v, rfl, hR⟩ hi hw K hK
   have e5 := hR.f5 (hw 5 (by simp))
   have e7 := hR.f7 (hw 7 (by simp))
   have e4 := hR.f4 (hw 4 (by simp))
   simp only [e5, e7, e4]
   clear e5 e7 e4
   go_simp
   go_at_call 33
   (with_reducible refine (((C2 W (hR.st))).out.mono ?_))
   rintro e w2 ⟨rfl, hb⟩
   go_simp
   refine hK.out _ _ ?_
   exact ⟨(fun jz => if jz = 88 then .slice (some ⟨ab, 0, none⟩) (p.n + 1) (p.n + 1) else if jz = 90 then .slice p.ca p.n p.cc else if jz = 87 then .bool true else if jz = 91 then .bool true else v jz), rfl, ⟨below_on hR.st hb, hR.f0.k, hR.f1.k, hR.f2.k, hR.f3.k, (fun _ => rfl), (fun _ => rfl), hR.f6.k, (fun _ => rfl), (fun _ => rfl), hR.f9.k, hR.f10.k, hR.f11.k, hR.f12.k, hR.f13.k, hR.f14.k, hR.f15.k, hR.f16.k, hR.f17.k, hR.f18.k, hR.f19.k, hR.f20.k, hR.f21.k, hR.w2.o, hR.w3.o, hR.w4.o, hR.w5.o, hR.w6.o, hR.w7.o, (fun _ j hj => upd_on (hw j hj)), hR.w9.o, hR.w10.o, hR.w11.o, hR.w12.o, hR.w13.o, hR.w14.o, hR.w15.o, hR.w16.o, hR.w17.o, hR.w18.o, hR.w19.o, hR.w20.o, hR.w21.o⟩⟩
  refine EachOf.cons [4, 8] rfl (by kernel_rfl) ?_ ?_
  ·rintro L A W ⟨v, rfl, hR⟩ hi hw K hK
   have e4 := hR.f4 (hw 4 (by simp))
   have e8 := hR.f8 (hw 8 (by simp))
   simp only [e4, e8]
   clear e4 e8
   go_simp
   refine hK.out _ _ ?_
   exact ⟨(fun jz => if jz = 87 then .bool true else if jz = 91 then .bool true else if jz = 92 then .bool true else v jz), rfl, ⟨hR.st, hR.f0.k, hR.f1.k, hR.f2.k, hR.f3.k, (fun _ => rfl), hR.f5.k, hR.f6.k, hR.f7.k, (fun _ => rfl), (fun _ => rfl), hR.f10.k, hR.f11.k, hR.f12.k, hR.f13.k, hR.f14.k, hR.f15.k, hR.f16.k, hR.f17.k, hR.f18.k, hR.f19.k, hR.f20.k, hR.f21.k, hR.w2.o, hR.w3.o, hR.w4.o, hR.w5.o, hR.w6.o, hR.w7.o, hR.w8.o, (fun _ j hj => upd_on (hw j hj)), hR.w10.o, hR.w11.o, hR.w12.o, hR.w13.o, hR.w14.o, hR.w15.o, hR.w16.o, hR.w17.o, hR.w18.o, hR.w19.o, hR.w20.o, hR.w21.o⟩⟩
  refine EachOf.cons [9] rfl (by kernel_rfl) ?_ ?_
  ·rintro L A W ⟨v, rfl, hR⟩ hi hw K hK
   have e9 := hR.f9 (hw 9 (by simp))
   simp only [e9]
   clear e9
   go_simp
   refine hK.out _ _ ?_
   exact ⟨(fun jz => if jz = 92 then .bool true else if jz = 93 then .bool true else v jz), rfl, ⟨hR.st, hR.f0.k, hR.f1.k, hR.f2.k, hR.f3.k, hR.f4.k, hR.f5.k, hR.f6.k, hR.f7.k, hR.f8.k, (fun _ => rfl), (fun _ => rfl), hR.f11.k, hR.f12.k, hR.f13.k, hR.f14.k, hR.f15.k, hR.f16.k, hR.f17.k, hR.f18.k, hR.f19.k, hR.f20.k, hR.f21.k, hR.w2.o, hR.w3.o, hR.w4.o, hR.w5.o, hR.w6.o, hR.w7.o, hR.w8.o, hR.w9.o, (fun _ j hj => upd_on (hw j hj)), hR.w11.o, hR.w12.o, hR.w13.o, hR.w14.o, hR.w15.o, hR.w16.o, hR.w17.o, hR.w18.o, hR.w19.o, hR.w20.o, hR.w21.o⟩⟩
  refine EachOf.cons [10] rfl (by kernel_rfl) ?_ ?_
  ·rintro L A W ⟨v, rfl, hR⟩ hi hw K hK
   have e10 := hR.f10 (hw 10 (by simp))
   simp only [e10]
   clear e10
   go_simp
   refine hK.out _ _ ?_
   exact ⟨(fun jz => if jz = 93 then .bool true else if jz = 94 then .slice (some ⟨ab, 0, none⟩) (p.n + 1) (p.n + 1) else v jz), rfl, ⟨hR.st, hR.f0.k, hR.f1.k, hR.f2.k, hR.f3.k, hR.f4.k, hR.f5.k, hR.f6.k, hR.f7.k, hR.f8.k, hR.f9.k, (fun _ => rfl), (fun _ => rfl), hR.f12.k, hR.f13.k, hR.f14.k, hR.f15.k, hR.f16.k, hR.f17.k, hR.f18.k, hR.f19.k, hR.f20.k, hR.f21.k, hR.w2.o, hR.w3.o, hR.w4.o, hR.w5.o, hR.w6.o, hR.w7.o, hR.w8.o, hR.w9.o, hR.w10.o, (fun _ j hj => upd_on (hw j hj)), hR.w12.o, hR.w13.o, hR.w14.o, hR.w15.o, hR.w16.o, hR.w17.o, hR.w18.o, hR.w19.o, hR.w20.o, hR.w21.o⟩⟩
  refine EachOf.cons [10] rfl (by kernel_rfl) ?_ ?_
  ·rintro L A W ⟨v, rfl, hR⟩ hi hw K hK
   have e10 := hR.f10 (hw 10 (by simp))
   simp only [e10]
   clear e10
   go_simp
   refine hK.out _ _ ?_
   exact ⟨(fun jz => if jz = 93 then .bool true else if jz = 95 then .pointer (some ⟨xb, 0, none⟩) else v jz), rfl, ⟨hR.st, hR.f0.k, hR.f1.k, hR.f2.k, hR.f3.k, hR.f4.k, hR.f5.k, hR.f6.k, hR.f7.k, hR.f8.k, hR.f9.k, (fun _ => rfl), hR.f11.k, (fun _ => rfl), hR.f13.k, hR.f14.k, hR.f15.k, hR.f16.k, hR.f17.k, hR.f18.k, hR.f19.k, hR.f20.k, hR.f21.k, hR.w2.o, hR.w3.o, hR.w4.o, hR.w5.o, hR.w6.o, hR.w7.o, hR.w8.o, hR.w9.o, hR.w10.o, hR.w11.o, (fun _ j hj => upd_on (hw j hj)), hR.w13.o, hR.w14.o, hR.w15.o, hR.w16.o, hR.w17.o, hR.w18.o, hR.w19.o, hR.w20.o, hR.w21.o⟩⟩
  refine EachOf.cons [10, 12] rfl (by kernel_rfl) ?_ ?_
  ·rintro L A W ⟨v, rfl, hR⟩ hi hw K hK
   have e12 := hR.f12 (hw 12 (by simp))
   have e10 := hR.f10 (hw 10 (by simp))
   simp only [e12, e10]
   clear e12 e10
   have q0 := (hR.st.cell (p := ⟨xb, 0, none⟩) LP0.out.2).trans LP0.out.1
   go_simp
   refine hK.out _ _ ?_
   exact ⟨(fun jz => if jz = 95 then .pointer (some ⟨xb, 0, none⟩) else if jz = 93 then .bool true else if jz = 96 then .slice p.ca p.n p.cc else v jz), rfl, ⟨hR.st, hR.f0.k, hR.f1.k, hR.f2.k, hR.f3.k, hR.f4.k, hR.f5.k, hR.f6.k, hR.f7.k, hR.f8.k, hR.f9.k, (fun _ => rfl), hR.f11.k, (fun _ => rfl), (fun _ => rfl), hR.f14.k, hR.f15.k, hR.f16.k, hR.f17.k, hR.f18.k, hR.f19.k, hR.f20.k, hR.f21.k, hR.w2.o, hR.w3.o, hR.w4.o, hR.w5.o, hR.w6.o, hR.w7.o, hR.w8.o, hR.w9.o, hR.w10.o, hR.w11.o, hR.w12.o, (fun _ j hj => upd_on (hw j hj)), hR.w14.o, hR.w15.o, hR.w16.o, hR.w17.o, hR.w18.o, hR.w19.o, hR.w20.o, hR.w21.o⟩⟩
  refine EachOf.cons [10, 13] rfl (by kernel_rfl) ?_ ?_
  ·rintro L A W ⟨v, rfl, hR⟩ hi hw K hK
   have e13 := hR.f13 (hw 13 (by simp))
   have e10 := hR.f10 (hw 10 (by simp))
   simp only [e13, e10]
   clear e13 e10
   go_simp
   refine hK.out _ _ ?_
   exact ⟨(fun jz => if jz = 96 then .slice p.ca p.n p.cc else if jz = 93 then .bool true else if jz = 97 then .int .i64 (p.n : Int) else v jz), rfl, ⟨hR.st, hR.f0.k, hR.f1.k, hR.f2.k, hR.f3.k, hR.f4.k, hR.f5.k, hR.f6.k, hR.f7.k, hR.f8.k, hR.f9.k, (fun _ => rfl), hR.f11.k, hR.f12.k, (fun _ => rfl), (fun _ => rfl), hR.f15.k, hR.f16.k, hR.f17.k, hR.f18.k, hR.f19.k, hR.f20.k, hR.f21.k, hR.w2.o, hR.w3.o, hR.w4.o, hR.w5.o, hR.w6.o, hR.w7.o, hR.w8.o, hR.w9.o, hR.w10.o, hR.w11.o, hR.w12.o, hR.w13.o, (fun _ j hj => upd_on (hw j hj)), hR.w15.o, hR.w16.o, hR.w17.o, hR.w18.o, hR.w19.o, hR.w20.o, hR.w21.o⟩⟩
  refine EachOf.cons [10, 11, 14] rfl (by kernel_rfl) ?_ ?_
  ·rintro L A W ⟨v, rfl, hR⟩ hi hw K hK
   have e11 := hR.f11 (hw 11 (by simp))
   have e14 := hR.f14 (hw 14 (by simp))
   have e10 := hR.f10 (hw 10 (by simp))
   simp only [e11, e14, e10]
   clear e11 e14 e10
   go_simp
   refine hK.out _ _ ?_
   exact ⟨(fun jz => if jz = 94 then .slice (some ⟨ab, 0, none⟩) (p.n + 1) (p.n + 1) else if jz = 97 then .int .i64 (p.n : Int) else if jz = 93 then .bool true else if jz = 98 then .pointer (some ⟨ab, p.n * 2, none⟩) else v jz), rfl, ⟨hR.st, hR.f0.k, hR.f1.k, hR.f2.k, hR.f3.k, hR.f4.k, hR.f5.k, hR.f6.k, hR.f7.k, hR.f8.k, hR.f9.k, (fun _ => rfl), (fun _ => rfl), hR.f12.k, hR.f13.k, (fun _ => rfl), (fun _ => rfl), hR.f16.k, hR.f17.k, hR.f18.k, hR.f19.k, hR.f20.k, hR.f21.k, hR.w2.o, hR.w3.o, hR.w4.o, hR.w5.o, hR.w6.o, hR.w7.o, hR.w8.o, hR.w9.o, hR.w10.o, hR.w11.o, hR.w12.o, hR.w13.o, hR.w14.o, (fun _ j hj => upd_on (hw j hj)), hR.w16.o, hR.w17.o, hR.w18.o, hR.w19.o, hR.w20.o, hR.w21.o⟩⟩
  refine EachOf.cons [10, 15] rfl (by kernel_rfl) ?_ ?_
  ·rintro L A W ⟨v, rfl, hR⟩ hi hw K hK
   have e15 := hR.f15 (hw 15 (by simp))
   have e10 := hR.f10 (hw 10 (by simp))
   simp only [e15, e10]
   clear e15 e10
   have q0 := (hR.st.cell (p := ⟨ab, p.n * 2, none⟩) LT0.out.2).trans LT0.out.1
   have q1 := (hR.st.cell (p := ⟨ab, p.n * 2 + 1, none⟩) LT1.out.2).trans LT1.out.1
   go_simp
   refine hK.out _ _ ?_
   exact ⟨(fun jz => if jz = 98 then .pointer (some ⟨ab, p.n * 2, none⟩) else if jz = 93 then .bool true else if jz = 99 then .agg #[.int .i64 a, .int .i64 d] else v jz), rfl, ⟨hR.st, hR.f0.k, hR.f1.k, hR.f2.k, hR.f3.k, hR.f4.k, hR.f5.k, hR.f6.k, hR.f7.k, hR.f8.k, hR.f9.k, (fun _ => rfl), hR.f11.k, hR.f12.k, hR.f13.k, hR.f14.k, (fun _ => rfl), (fun _ => rfl), hR.f17.k, hR.f18.k, hR.f19.k, hR.f20.k, hR.f21.k, hR.w2.o, hR.w3.o, hR.w4.o, hR.w5.o, hR.w6.o, hR.w7.o, hR.w8.o, hR.w9.o, hR.w10.o, hR.w11.o, hR.w12.o, hR.w13.o, hR.w14.o, hR.w15.o, (fun _ j hj => upd_on (hw j hj)), hR.w17.o, hR.w18.o, hR.w19.o, hR.w20.o, hR.w21.o⟩⟩
  refine EachOf.cons [10] rfl (by kernel_rfl) ?_ ?_
  ·rintro L A W ⟨v, rfl, hR⟩ hi hw K hK
   have e10 := hR.f10 (hw 10 (by simp))
   simp only [e10]
   clear e10
   go_simp
   refine hK.out _ _ ?_
   exact ⟨(fun jz => if jz = 93 then .bool true else if jz = 100 then .pointer (some ⟨kb, 0, none⟩) else v jz), rfl, ⟨hR.st, hR.f0.k, hR.f1.k, hR.f2.k, hR.f3.k, hR.f4.k, hR.f5.k, hR.f6.k, hR.f7.k, hR.f8.k, hR.f9.k, (fun _ => rfl), hR.f11.k, hR.f12.k, hR.f13.k, hR.f14.k, hR.f15.k, hR.f16.k, (fun _ => rfl), hR.f18.k, hR.f19.k, hR.f20.k, hR.f21.k, hR.w2.o, hR.w3.o, hR.w4.o, hR.w5.o, hR.w6.o, hR.w7.o, hR.w8.o, hR.w9.o, hR.w10.o, hR.w11.o, hR.w12.o, hR.w13.o, hR.w14.o, hR.w15.o, hR.w16.o, (fun _ j hj => upd_on (hw j hj)), hR.w18.o, hR.w19.o, hR.w20.o, hR.w21.o⟩⟩
  refine EachOf.cons [10, 17] rfl (by kernel_rfl) ?_ ?_
  ·rintro L A W ⟨v, rfl, hR⟩ hi hw K hK
   have e17 := hR.f17 (hw 17 (by simp))
   have e10 := hR.f10 (hw 10 (by simp))
   simp only [e17, e10]
   clear e17 e10
   have q0 := (hR.st.cell (p := ⟨kb, 0, none⟩) LV0.out.2).trans LV0.out.1
   have q1 := (hR.st.cell (p := ⟨kb, 1, none⟩) LV1.out.2).trans LV1.out.1
   go_simp
   refine hK.out _ _ ?_
   exact ⟨(fun jz => if jz = 100 then .pointer (some ⟨kb, 0, none⟩) else if jz = 93 then .bool true else if jz = 101 then .agg #[.int .i64 va, .int .i64 vd] else v jz), rfl, ⟨hR.st, hR.f0.k, hR.f1.k, hR.f2.k, hR.f3.k, hR.f4.k, hR.f5.k, hR.f6.k, hR.f7.k, hR.f8.k, hR.f9.k, (fun _ => rfl), hR.f11.k, hR.f12.k, hR.f13.k, hR.f14.k, hR.f15.k, hR.f16.k, (fun _ => rfl), (fun _ => rfl), hR.f19.k, hR.f20.k, hR.f21.k, hR.w2.o, hR.w3.o, hR.w4.o, hR.w5.o, hR.w6.o, hR.w7.o, hR.w8.o, hR.w9.o, hR.w10.o, hR.w11.o, hR.w12.o, hR.w13.o, hR.w14.o, hR.w15.o, hR.w16.o, hR.w17.o, (fun _ j hj => upd_on (hw j hj)), hR.w19.o, hR.w20.o, hR.w21.o⟩⟩
  refine EachOf.cons [10, 16, 18] rfl (by kernel_rfl) ?_ ?_
  ·rintro L A W ⟨v, rfl, hR⟩ hi hw K hK
   have e16 := hR.f16 (hw 16 (by simp))
   have e18 := hR.f18 (hw 18 (by simp))
   have e10 := hR.f10 (hw 10 (by simp))
   simp only [e16, e18, e10]
   clear e16 e18 e10
   go_simp
   rw [HIF.out]
   go_simp
   refine hK.out _ _ ?_
   exact ⟨(fun jz => if jz = 99 then .agg #[.int .i64 a, .int .i64 d] else if jz = 101 then .agg #[.int .i64 va, .int .i64 vd] else if jz = 93 then .bool true else if jz = 102 then .bool true else v jz), rfl, ⟨hR.st, hR.f0.k, hR.f1.k, hR.f2.k, hR.f3.k, hR.f4.k, hR.f5.k, hR.f6.k, hR.f7.k, hR.f8.k, hR.f9.k, (fun _ => rfl), hR.f11.k, hR.f12.k, hR.f13.k, hR.f14.k, hR.f15.k, (fun _ => rfl), hR.f17.k, (fun _ => rfl), (fun _ => rfl), hR.f20.k, hR.f21.k, hR.w2.o, hR.w3.o, hR.w4.o, hR.w5.o, hR.w6.o, hR.w7.o, hR.w8.o, hR.w9.o, hR.w10.o, hR.w11.o, hR.w12.o, hR.w13.o, hR.w14.o, hR.w15.o, hR.w16.o, hR.w17.o, hR.w18.o, (fun _ j hj => upd_on (hw j hj)), hR.w20.o, hR.w21.o⟩⟩
  refine EachOf.cons [10, 19] rfl (by kernel_rfl) ?_ ?_
  ·rintro L A W ⟨v, rfl, hR⟩ hi hw K hK
   have e10 := hR.f10 (hw 10 (by simp))
   have e19 := hR.f19 (hw 19 (by simp))
   simp only [e10, e19]
   clear e10 e19
   go_simp
   refine hK.out _ _ ?_
   exact ⟨(fun jz => if jz = 93 then .bool true else if jz = 102 then .bool true else if jz = 103 then .bool true else v jz), rfl, ⟨hR.st, hR.f0.k, hR.f1.k, hR.f2.k, hR.f3.k, hR.f4.k, hR.f5.k, hR.f6.k, hR.f7.k, hR.f8.k, hR.f9.k, (fun _ => rfl), hR.f11.k, hR.f12.k, hR.f13.k, hR.f14.k, hR.f15.k, hR.f16.k, hR.f17.k, hR.f18.k, (fun _ => rfl), (fun _ => rfl), hR.f21.k, hR.w2.o, hR.w3.o, hR.w4.o, hR.w5.o, hR.w6.o, hR.w7.o, hR.w8.o, hR.w9.o, hR.w10.o, hR.w11.o, hR.w12.o, hR.w13.o, hR.w14.o, hR.w15.o, hR.w16.o, hR.w17.o, hR.w18.o, hR.w19.o, (fun _ j hj => upd_on (hw j hj)), hR.w21.o⟩⟩
  refine EachOf.cons [20] rfl (by kernel_rfl) ?_ ?_
  ·rintro L A W ⟨v, rfl, hR⟩ hi hw K hK
   have e20 := hR.f20 (hw 20 (by simp))
   simp only [e20]
   clear e20
   go_simp
   refine hK.out _ _ ?_
   exact ⟨(fun jz => if jz = 103 then .bool true else if jz = 13 then .bool true else v jz), rfl, ⟨hR.st, hR.f0.k, hR.f1.k, hR.f2.k, hR.f3.k, hR.f4.k, hR.f5.k, hR.f6.k, hR.f7.k, hR.f8.k, hR.f9.k, hR.f10.k, hR.f11.k, hR.f12.k, hR.f13.k, hR.f14.k, hR.f15.k, hR.f16.k, hR.f17.k, hR.f18.k, hR.f19.k, (fun _ => rfl), (fun _ => rfl), hR.w2.o, hR.w3.o, hR.w4.o, hR.w5.o, hR.w6.o, hR.w7.o, hR.w8.o, hR.w9.o, hR.w10.o, hR.w11.o, hR.w12.o, hR.w13.o, hR.w14.o, hR.w15.o, hR.w16.o, hR.w17.o, hR.w18.o, hR.w19.o, hR.w20.o, (fun _ j hj => upd_on (hw j hj))⟩⟩
  exact EachOf.nil
 rintro L A W ⟨v, rfl, hR⟩ hL
 have e21 := hR.f21 (hL 21 (by simp))
 simp only [e21]
 have HVB := Lib.hid (HVB.out.on hR.st)
 have HKB := Lib.hid (HKB.out.on hR.st)
 have HB := Lib.hid (below_on HB.out hR.st)
 clear e21 hR hL C1 C2 LP0 LP1 LY LV0 LV1 LT0 LT1 HXB
 obtain ⟨_, b0, b1⟩ := HVB.out
 have k0 := HKB.out.c0
 have k1 := HKB.out.c1
 cases fv
 ·have hno : ¬ ChkR p va vd X Y := fun h => by have := HFF.out.2 h.fea; cases this
  go_wp2_with fail
  go_ret2
  (first | exact ⟨HB.out, false, 0, rfl, .inr (.inr (.inr ⟨hok, HFV.out.1, HFV.out.2.1, HFV.out.2.2, rfl, rfl, HCF.out, ⟨fun h => (by cases h), fun h => absurd h hno⟩, rfl⟩))⟩ | exact ⟨HB.out, .inl ⟨0, rfl, .inr (.inr (.inr ⟨hok, HFV.out.1, HFV.out.2.1, HFV.out.2.2, rfl, rfl, HCF.out, ⟨fun h => (by cases h), fun h => absurd h hno⟩, rfl⟩))⟩⟩)
 ·by_cases h1 : ra = va
  ·by_cases h2 : rd = vd
   ·have hyes : ChkR p va vd X Y := ⟨HFF.out.1 (by trivial), by rw [← h1, ← h2]; exact HVO.out.symm, HV1.out.1 (by trivial), HV2.out.1 (by trivial), by rw [← HHAD.out.1, ← HHAD.out.2]; exact HAD.out⟩
    have HY2 := Lib.hid hyes
    clear hyes
    go_wp2_with fail
    go_ret2
    have hyes := HY2.out
    (first | exact ⟨HB.out, true, 0, rfl, .inr (.inr (.inr ⟨hok, HFV.out.1, HFV.out.2.1, HFV.out.2.2, rfl, rfl, HCF.out, ⟨fun _ => hyes, fun _ => rfl⟩, rfl⟩))⟩ | exact ⟨HB.out, .inr ⟨0, rfl, .inr (.inr (.inr ⟨hok, HFV.out.1, HFV.out.2.1, HFV.out.2.2, rfl, rfl, HCF.out, ⟨fun _ => hyes, fun _ => rfl⟩, rfl⟩))⟩⟩)
   ·have hno : ¬ ChkR p va vd X Y := fun h => by
     have := h.val
     rw [← HVO.out] at this
     exact h2 (three this).2.1
    have HN2 := Lib.hid hno
    clear hno
    go_wp2_with fail
    go_ret2
    have hno := HN2.out
    (first | exact ⟨HB.out, false, 0, rfl, .inr (.inr (.inr ⟨hok, HFV.out.1, HFV.out.2.1, HFV.out.2.2, rfl, rfl, HCF.out, ⟨fun h => (by cases h), fun h => absurd h hno⟩, rfl⟩))⟩ | exact ⟨HB.out, .inl ⟨0, rfl, .inr (.inr (.inr ⟨hok, HFV.out.1, HFV.out.2.1, HFV.out.2.2, rfl, rfl, HCF.out, ⟨fun h => (by cases h), fun h => absurd h hno⟩, rfl⟩))⟩⟩)
  ·have hno : ¬ ChkR p va vd X Y := fun h => by
    have := h.val
    rw [← HVO.out] at this
    exact h1 (three this).1
   have HN2 := Lib.hid hno
   clear hno
   go_wp2_with fail
   go_ret2
   have hno := HN2.out
   (first | exact ⟨HB.out, false, 0, rfl, .inr (.inr (.inr ⟨hok, HFV.out.1, HFV.out.2.1, HFV.out.2.2, rfl, rfl, HCF.out, ⟨fun h => (by cases h), fun h => absurd h hno⟩, rfl⟩))⟩ | exact ⟨HB.out, .inl ⟨0, rfl, .inr (.inr (.inr ⟨hok, HFV.out.1, HFV.out.2.1, HFV.out.2.2, rfl, rfl, HCF.out, ⟨fun h => (by cases h), fun h => absurd h hno⟩, rfl⟩))⟩⟩)
end Go.Proofs.YtggpdhdbeokkcaaGreat

namespace Go.Proofs.YtggpdhdbeokkcaaGreat
set_option linter.unusedVariables false

theorem make_redT {a D : Int} (hD : 0 < D) : makeT a D = redT a D := by
 unfold makeT
 rw [if_neg (by omega), if_neg (by omega), Int.natAbs_of_nonneg (by omega)]
end Go.Proofs.YtggpdhdbeokkcaaGreat

namespace Go.Proofs.YtggpdhdbeokkcaaGreat
set_option linter.unusedVariables false

theorem fac_prod (p : PgD) : ∀ k, prodN (k + 1) (facP p) = (1 + absS p.n p.C) * prodN k (fP p.n p.Z p.Rt) := by
 intro k
 induction k with
 | zero => show (1 : Int) * (1 + absS p.n p.C) = _ * 1; omega
 | succ k ih =>
  show prodN (k + 1) (facP p) * fP p.n p.Z p.Rt k = _ * (prodN k (fP p.n p.Z p.Rt) * fP p.n p.Z p.Rt k)
  rw [ih, Int.mul_assoc]
theorem absS_nn (n : Nat) (f : Nat → Int) : 0 ≤ absS n f := sumN_nn fun _ _ => by omega
theorem fit_bd {p : PgD} (hv : p.Ok) (hf : FitP p) : 1 ≤ prodN p.m (fP p.n p.Z p.Rt) ∧ prodN p.m (fP p.n p.Z p.Rt) ≤ 17592186044416 ∧ absS p.n p.C * prodN p.m (fP p.n p.Z p.Rt) ≤ 17592186044416 ∧ ∀ i, i < p.m → fP p.n p.Z p.Rt i * prodN p.m (fP p.n p.Z p.Rt) ≤ 144115188075855872 := by
 have h1 := hf.1
 have h2 := hf.2
 rw [fac_prod] at h1
 have hP := (lpA p.n p.m p.Z p.Kd p.Rt).prod
 have hC := absS_nn p.n p.C
 have h3 : 0 ≤ absS p.n p.C * prodN p.m (fP p.n p.Z p.Rt) := Int.mul_nonneg hC (by omega)
 have h4 := h1
 rw [Int.add_mul, Int.one_mul] at h4
 refine ⟨hP, by omega, by omega, fun i hi => ?_⟩
 have h5 := h2 (i + 1) (by omega)
 rw [fac_prod, Int.add_mul, Int.one_mul] at h5
 have e : facP p (i + 1) = fP p.n p.Z p.Rt i := rfl
 rw [e, Int.add_mul] at h5
 have h6 : 0 ≤ absS p.n p.C * prodN p.m (fP p.n p.Z p.Rt) * fP p.n p.Z p.Rt i := Int.mul_nonneg h3 (by have := (lpA p.n p.m p.Z p.Kd p.Rt).f1 i hi; omega)
 rw [Int.mul_comm]
 omega

section
variable {p : PgD} {b : Nat → Nat}
theorem dP_bd (hv : p.Ok) (hf : FitP p) (hg : GoodP p.m (tabA p.n p.m p.Z p.Kd p.Rt) (p.n + p.m + p.m + 1) (p.n + p.m + p.m) b) : 0 < dP p b ∧ dP p b ≤ 1152921504606846976 := by
 have h1 := (lpA p.n p.m p.Z p.Kd p.Rt).dd hg.lt
 have h2 := fit_bd hv hf
 refine ⟨ddP_pos hg.nz, ?_⟩
 show ddP p.m (tabA p.n p.m p.Z p.Kd p.Rt) b ≤ _
 omega
end
end Go.Proofs.YtggpdhdbeokkcaaGreat

namespace Go.Proofs.YtggpdhdbeokkcaaGreat
set_option linter.unusedVariables false
open Go.RowKit Go.Shelf

/-- The first program of the chapter, wherever it lies. -/
def exP (ca ra c0 c1 : Option Addr) : PgD where
 ca := ca
 n := 2
 cc := 2
 C := fun _ => -1
 ra := ra
 m := 2
 rc := 2
 Ca := fun i => if i = 0 then c0 else c1
 Ln := fun _ => 2
 Kc := fun _ => 2
 Z := fun i j => if i = 0 then (if j = 0 then 1 else 2) else (if j = 0 then 3 else 1)
 Kd := fun _ => 1
 Rt := fun i => if i = 0 then 4 else 6

theorem two_of {P : Nat → Prop} (h0 : P 0) (h1 : P 1) : ∀ i, i < 2 → P i := fun i hi => by
 match i, hi with
 | 0, _ => exact h0
 | 1, _ => exact h1

set_option maxHeartbeats 4000000 in
theorem example_any (w : World) : Calls Tryz.prog 21 #[] w fun e w' => Below w.heap.size w w' ∧ ∃ ca ra c0 c1, e = .returned (exP ca ra c0 c1).val ∧ (exP ca ra c0 c1).At w' := by
 go_enter Tryz.func21, Tryz.ntmps21
 go_wp2_with fail
 refine bodyPost_ret (by simp [results, Tryz.results21, go_sem]; rfl) rfl ?_
 refine ⟨by go_grown, some ⟨w.heap.size + 1, 0, none⟩, some ⟨w.heap.size + 1 + 1 + 1 + 1, 0, none⟩, some ⟨w.heap.size + 1 + 1, 0, none⟩, some ⟨w.heap.size + 1 + 1 + 1, 0, none⟩, rfl, ⟨fun _ => ⟨_, 0, rfl, by simp, ?_⟩, fun _ => ⟨_, 0, rfl, by simp, ?_⟩, ?_⟩⟩
 ·exact two_of (by simp [exP, go_sem]) (by simp [exP, go_sem])
 ·exact two_of (by simp [exP, go_sem]) (by simp [exP, go_sem])
 ·refine two_of (fun _ => ⟨w.heap.size + 1 + 1, 0, by simp [exP], by simp, two_of (by simp [exP, go_sem]) (by simp [exP, go_sem])⟩) (fun _ => ⟨w.heap.size + 1 + 1 + 1, 0, by simp [exP], by simp, two_of (by simp [exP, go_sem]) (by simp [exP, go_sem])⟩)

section
variable (ca ra c0 c1 : Option Addr)
theorem ex_ok : (exP ca ra c0 c1).Ok where
 n1 := of_decide_eq_true rfl
 n2 := of_decide_eq_true rfl
 m2 := of_decide_eq_true rfl
 c := fun j _ => by show -1048576 ≤ (-1 : Int) ∧ (-1 : Int) ≤ 1048576; decide
 l := fun i _ => rfl
 z := two_of (two_of (of_decide_eq_true rfl) (of_decide_eq_true rfl)) (two_of (of_decide_eq_true rfl) (of_decide_eq_true rfl))
 k := fun i _ => by show (1 : Int) ≤ 1 ∧ (1 : Int) ≤ 3; decide
 r := two_of (of_decide_eq_true rfl) (of_decide_eq_true rfl)
theorem ex_fit : FitP (exP ca ra c0 c1) := by
 have h : prodN 3 (facP (exP ca ra c0 c1)) = 264 := of_decide_eq_true (by kernel_rfl)
 refine ⟨by show prodN 3 (facP (exP ca ra c0 c1)) ≤ _; rw [h]; decide, fun l hl => ?_⟩
 show prodN 3 (facP (exP ca ra c0 c1)) * facP (exP ca ra c0 c1) l ≤ _
 rw [h]
 have hl : l < 3 := hl
 match l, hl with
 | 0, _ => exact of_decide_eq_true (by kernel_rfl)
 | 1, _ => exact of_decide_eq_true (by kernel_rfl)
 | 2, _ => exact of_decide_eq_true (by kernel_rfl)
def exX (j : Nat) : Int := if j = 0 then 8 else 6
def exY (i : Nat) : Int := if i = 0 then -2 else -1
theorem one_two : ¬ (1 : Int) = 2 := by decide
theorem one_three : ¬ (1 : Int) = 3 := by decide
theorem ex_fea : FeaP (exP ca ra c0 c1) 5 exX where
 nn := two_of (by decide) (by decide)
 row := two_of ⟨fun _ => of_decide_eq_true rfl, fun h => absurd h one_two, fun h => absurd h one_three⟩ ⟨fun _ => of_decide_eq_true rfl, fun h => absurd h one_two, fun h => absurd h one_three⟩
theorem ex_prov : ProvP (exP ca ra c0 c1) 5 exY where
 rgt := two_of ⟨fun _ => by decide, fun h => absurd h one_two⟩ ⟨fun _ => by decide, fun h => absurd h one_two⟩
 col := two_of (of_decide_eq_true rfl) (of_decide_eq_true rfl)
theorem opt_val {p : PgD} {b : Nat → Nat} (ho : OptP p b) : valP p (xP p b) = rgtV p (yP p 0 (c0F p.n p.C) b) := by
 rw [xP_val ho.rel, yP_right 0 _ (fun c hc => if_neg (by omega)) (if_neg (by omega)) b]; omega
/-- The value of a program by a point and multipliers that prove it. -/
theorem opt_is {p : PgD} (hv : p.Ok) {b : Nat → Nat} (ho : OptP p b) {d e : Int} {x y : Nat → Int} (hd : 0 < d) (he : 0 < e) (hx : FeaP p d x) (hy : ProvP p e y) : rgtV p y * dP p b ≤ e * valP p (xP p b) ∧ valP p (xP p b) * d ≤ dP p b * valP p x := by
 have h1 := weak hv (xP_fea hv ho.rel) hy
 have h2 := weak hv hx (y_prov ho.zz)
 rw [← opt_val ho] at h2
 exact ⟨h1, h2⟩
theorem ex_val {b : Nat → Nat} (hf : FitP (exP ca ra c0 c1)) (ho : OptP (exP ca ra c0 c1) b) : shF (valP (exP ca ra c0 c1) (xP (exP ca ra c0 c1) b)) (dP (exP ca ra c0 c1) b) = (-14, 5) := by
 have h := opt_is (d := 5) (e := 5) (ex_ok ca ra c0 c1) ho (by decide) (by decide) (ex_fea ca ra c0 c1) (ex_prov ca ra c0 c1)
 have hd := dP_bd (ex_ok ca ra c0 c1) hf ho.rel.good
 have e1 : rgtV (exP ca ra c0 c1) exY = -14 := rfl
 have e2 : valP (exP ca ra c0 c1) exX = -14 := rfl
 rw [e1, e2] at h
 generalize valP (exP ca ra c0 c1) (xP (exP ca ra c0 c1) b) = v at *
 generalize dP (exP ca ra c0 c1) b = D at *
 have hm : makeT v D = (-14, 5, 0) := by
  rw [make_redT hd.1, redT_eq (p' := -14) (q' := 5) hd.1 (by decide) (by omega), redT_vld ⟨by decide, by decide, by decide, by decide, by decide⟩]
 unfold shF
 rw [hm]
theorem ex_solve (w : World) (hp : (exP ca ra c0 c1).At w) : Calls Tryz.prog 17 #[(exP ca ra c0 c1).val] w fun e w' => Below w.heap.size w w' ∧ ∃ xb yb, e = .returned (.tuple #[.agg #[.int .i64 (-14), .int .i64 5, .slice (some ⟨xb, 0, none⟩) 2 2, .slice (some ⟨yb, 0, none⟩) 2 2], .int .i64 0]) := by
 refine (Solve_any (exP ca ra c0 c1) ⟨of_decide_eq_true rfl, of_decide_eq_true rfl, fun i _ => of_decide_eq_true rfl⟩ w hp).mono ?_
 rintro e w' ⟨hb, vl, er, rfl, h⟩
 refine ⟨hb, ?_⟩
 rcases h with h | h | h | h | ⟨rfl, _, hf, b, xb, yb, ho, rfl, _⟩
 ·exact absurd (ex_ok ca ra c0 c1) h.2.1
 ·exact absurd (ex_fit ca ra c0 c1) h.2.2.1
 ·obtain ⟨y, hy⟩ := h.2.2.2.1
  exact (no_refute (d := 5) (ex_ok ca ra c0 c1) (by decide) (ex_fea ca ra c0 c1) hy).elim
 ·obtain ⟨r, hr⟩ := h.2.2.2.2.1
  exact (no_ray (e := 5) (ex_ok ca ra c0 c1) (by decide) hr (ex_prov ca ra c0 c1)).elim
 ·refine ⟨xb, yb, ?_⟩
  unfold aV
  rw [ex_val ca ra c0 c1 hf ho]
  rfl

def exXF (j : Nat) : Int × Int := if j = 0 then (8, 5) else (6, 5)
def exYF (i : Nat) : Int × Int := if i = 0 then (-2, 5) else (-1, 5)
theorem ex_row0 : comS ((exP ca ra c0 c1).Z 0) exXF 2 = (4, 1, 0) := of_decide_eq_true (by kernel_rfl)
theorem ex_row1 : comS ((exP ca ra c0 c1).Z 1) exXF 2 = (6, 1, 0) := of_decide_eq_true (by kernel_rfl)
theorem ex_cost : comS (exP ca ra c0 c1).C exXF 2 = (-14, 5, 0) := of_decide_eq_true (by kernel_rfl)
theorem ex_col0 : comS (wF (exP ca ra c0 c1) 0) exYF 2 = (-1, 1, 0) := of_decide_eq_true (by kernel_rfl)
theorem ex_col1 : comS (wF (exP ca ra c0 c1) 1) exYF 2 = (-1, 1, 0) := of_decide_eq_true (by kernel_rfl)
theorem ex_rgt : comS (wF (exP ca ra c0 c1) 2) exYF 2 = (-14, 5, 0) := of_decide_eq_true (by kernel_rfl)
theorem three_of {P : Nat → Prop} (h0 : P 0) (h1 : P 1) (h2 : P 2) : ∀ i, i < 3 → P i := fun i hi => by
 match i, hi with
 | 0, _ => exact h0
 | 1, _ => exact h1
 | 2, _ => exact h2
theorem ex_chkF : ChkF (exP ca ra c0 c1) exXF exYF := ⟨two_of (by show (comS _ exXF 2).2.2 = 0; rw [ex_row0]) (by show (comS _ exXF 2).2.2 = 0; rw [ex_row1]), by show (comS _ exXF 2).2.2 = 0; rw [ex_cost],
 three_of (by show (comS _ exYF 2).2.2 = 0; rw [ex_col0]) (by show (comS _ exYF 2).2.2 = 0; rw [ex_col1]) (by show (comS _ exYF 2).2.2 = 0; rw [ex_rgt])⟩
theorem ex_chkR : ChkR (exP ca ra c0 c1) (-14) 5 exXF exYF where
 fea := ⟨two_of (by show satB 1 (cmpI (comS _ exXF 2).1 (comS _ exXF 2).2.1 4) = true; rw [ex_row0]; decide) (by show satB 1 (cmpI (comS _ exXF 2).1 (comS _ exXF 2).2.1 6) = true; rw [ex_row1]; decide), two_of (by decide) (by decide)⟩
 val := ex_cost ca ra c0 c1
 sg := two_of (by rintro (⟨_, h⟩ | ⟨h, _⟩); exact absurd h (by decide); exact absurd h one_two) (by rintro (⟨_, h⟩ | ⟨h, _⟩); exact absurd h (by decide); exact absurd h one_two)
 col := two_of (by show cmpI (comS _ exYF 2).1 (comS _ exYF 2).2.1 (-1) ≤ 0; rw [ex_col0]; decide) (by show cmpI (comS _ exYF 2).1 (comS _ exYF 2).2.1 (-1) ≤ 0; rw [ex_col1]; decide)
 rgt := ex_rgt ca ra c0 c1
theorem ex_vld : Vld (-14) 5 ∧ FrV 2 exXF ∧ FrV 2 exYF := ⟨⟨by decide, by decide, by decide, by decide, by decide⟩, two_of ⟨by decide, by decide, by decide, by decide, by decide⟩ ⟨by decide, by decide, by decide, by decide, by decide⟩, two_of ⟨by decide, by decide, by decide, by decide, by decide⟩ ⟨by decide, by decide, by decide, by decide, by decide⟩⟩
theorem ex_check (xa ya : Option Addr) (w : World) (hp : (exP ca ra c0 c1).At w) (hx : IFr w xa 2 exXF) (hy : IFr w ya 2 exYF) : Calls Tryz.prog 8 #[(exP ca ra c0 c1).val, .agg #[.int .i64 (-14), .int .i64 5, .slice xa 2 2, .slice ya 2 2]] w fun e w' => Below w.heap.size w w' ∧ e = .returned (.tuple #[.bool true, .int .i64 0]) := by
 refine (Check_any (exP ca ra c0 c1) ⟨of_decide_eq_true rfl, of_decide_eq_true rfl, fun i _ => of_decide_eq_true rfl⟩ (-14) 5 xa 2 2 exXF ya 2 2 exYF w hp hx hy (two_of (by decide) (by decide)) (two_of (by decide) (by decide)) (fun _ _ => by show (-9223372036854775808 ≤ (-14 : Int) ∧ (-14 : Int) ≤ 9223372036854775807) ∧ -9223372036854775808 ≤ (5 : Int) ∧ (5 : Int) ≤ 9223372036854775807; decide) (by decide) (by decide)).mono ?_
 rintro e w' ⟨hb, v, er, rfl, h⟩
 have hv := ex_vld
 rcases h with h | h | h | h
 ·exact absurd ⟨ex_ok ca ra c0 c1, hv.1, hv.2.1, hv.2.2⟩ h.1
 ·exact absurd ⟨rfl, rfl⟩ h.2.2.2.2.1
 ·exact absurd (ex_chkF ca ra c0 c1) h.2.2.2.2.2.2.1
 ·obtain ⟨_, _, _, _, _, _, _, h1, rfl⟩ := h
  rw [h1.2 (ex_chkR ca ra c0 c1)]
  exact ⟨hb, rfl⟩
end
end Go.Proofs.YtggpdhdbeokkcaaGreat

namespace Go.Proofs.YtggpdhdbeokkcaaGreat
set_option linter.unusedVariables false
open Go.RowKit Go.Shelf

/-- A program without a feasible point, wherever it lies. -/
def noP (ca ra c0 c1 : Option Addr) : PgD where
 ca := ca
 n := 1
 cc := 1
 C := fun _ => 0
 ra := ra
 m := 2
 rc := 2
 Ca := fun i => if i = 0 then c0 else c1
 Ln := fun _ => 1
 Kc := fun _ => 1
 Z := fun _ _ => 1
 Kd := fun i => if i = 0 then 2 else 1
 Rt := fun i => if i = 0 then 3 else 2
theorem one_of {P : Nat → Prop} (h0 : P 0) : ∀ i, i < 1 → P i := fun i hi => by
 match i, hi with
 | 0, _ => exact h0
def noY (i : Nat) : Int × Int := if i = 0 then (1, 1) else (-1, 1)
section
variable (ca ra c0 c1 : Option Addr)
theorem no_ok : (noP ca ra c0 c1).Ok where
 n1 := of_decide_eq_true rfl
 n2 := of_decide_eq_true rfl
 m2 := of_decide_eq_true rfl
 c := fun j _ => by show -1048576 ≤ (0 : Int) ∧ (0 : Int) ≤ 1048576; decide
 l := fun i _ => rfl
 z := fun i _ j _ => by show -1048576 ≤ (1 : Int) ∧ (1 : Int) ≤ 1048576; decide
 k := two_of (of_decide_eq_true rfl) (of_decide_eq_true rfl)
 r := two_of (of_decide_eq_true rfl) (of_decide_eq_true rfl)
theorem no_col : comS (wF (noP ca ra c0 c1) 0) noY 2 = (0, 1, 0) := of_decide_eq_true (by kernel_rfl)
theorem no_rgt : comS (wF (noP ca ra c0 c1) 1) noY 2 = (1, 1, 0) := of_decide_eq_true (by kernel_rfl)
theorem no_refR : RefR (noP ca ra c0 c1) noY where
 sg := two_of (by rintro (⟨h, _⟩ | ⟨_, h⟩); exact absurd h (by show ¬ (2 : Int) = 1; decide); exact absurd h (by decide)) (by rintro (⟨_, h⟩ | ⟨h, _⟩); exact absurd h (by decide); exact absurd h one_two)
 col := one_of (by show cmpI (comS _ noY 2).1 (comS _ noY 2).2.1 0 ≤ 0; rw [no_col]; decide)
 pos := by show 0 < (comS (wF (noP ca ra c0 c1) 1) noY 2).1; rw [no_rgt]; decide
theorem no_vld : FrV 2 noY := two_of ⟨by decide, by decide, by decide, by decide, by decide⟩ ⟨by decide, by decide, by decide, by decide, by decide⟩
theorem no_refutes (ya : Option Addr) (w : World) (hp : (noP ca ra c0 c1).At w) (hy : IFr w ya 2 noY) : Calls Tryz.prog 9 #[.agg #[.slice ca 1 1, .slice ra 2 2], .slice ya 2 2] w fun e w' => e = .returned (.tuple #[.bool true, .int .i64 0]) ∧ Below w.heap.size w w' := by
 refine (Refutes_any (noP ca ra c0 c1) ⟨of_decide_eq_true rfl, of_decide_eq_true rfl, fun i _ => of_decide_eq_true rfl⟩ ya 2 2 noY w hp hy (two_of (by decide) (by decide)) (by decide)).mono ?_
 rintro e w' ⟨hb, v, er, rfl, h⟩
 rcases h with h | h | h | h
 ·exact absurd ⟨no_ok ca ra c0 c1, no_vld⟩ h.1
 ·exact absurd rfl h.2.2.1
 ·obtain ⟨j, hj, hc⟩ := h.2.2.2.1
  have key : ∀ j, j < 2 → ¬ comS (wF (noP ca ra c0 c1) j) noY 2 = (0, 0, 5) := two_of (by rw [no_col]; decide) (by rw [no_rgt]; decide)
  exact absurd hc (key j hj)
 ·obtain ⟨_, _, _, _, h1, rfl⟩ := h
  rw [h1.2 (no_refR ca ra c0 c1)]
  exact ⟨rfl, hb⟩
end
theorem ex_call (w : World) : Calls Tryz.prog 21 #[] w fun e w' => Below w.heap.size w w' ∧ ∃ ca ra c0 c1, e = .returned (.agg #[.slice ca 2 2, .slice ra 2 2]) ∧ (exP ca ra c0 c1).At w' := example_any w

set_option maxRecDepth 100000 in
set_option maxHeartbeats 16000000 in
theorem pawake_any (w : World) : Calls Tryz.prog 5 #[] w fun e w' => e = .returned (.bool true) ∧ Below w.heap.size w w' := by
 have CE := fun W => Lib.hid (ex_call W)
 go_enter Tryz.func5, Tryz.ntmps5
 go_wp2_with fail
 (with_reducible refine (((CE _).out).mono ?_))
 rintro e w1 ⟨hb1, ca, ra, c0, c1, rfl, hat⟩
 have HB := Lib.hid hb1
 have CS : Hid (Calls Tryz.prog 17 #[.agg #[.slice ca 2 2, .slice ra 2 2]] w1 fun e w' => Below w1.heap.size w1 w' ∧ ∃ xb yb, e = .returned (.tuple #[.agg #[.int .i64 (-14), .int .i64 5, .slice (some ⟨xb, 0, none⟩) 2 2, .slice (some ⟨yb, 0, none⟩) 2 2], .int .i64 0])) := ex_solve ca ra c0 c1 w1 hat
 clear hb1 hat
 go_wp2_with fail
 (with_reducible refine ((CS.out).mono ?_))
 rintro e w2 ⟨hb2, xb, yb, rfl⟩
 have HB := Lib.hid (below_on HB.out hb2)
 clear hb2 CS
 go_upto_region 2 with fail
 obtain ⟨w3, hw3⟩ : ∃ W, W = w2.alloc (Obj.cells #[.int .i64 (-14), .int .i64 5, .slice (some ⟨xb, 0, none⟩) 2 2, .slice (some ⟨yb, 0, none⟩) 2 2] 30) := ⟨_, rfl⟩
 obtain ⟨ab, hab⟩ : ∃ x, x = w2.heap.size := ⟨_, rfl⟩
 rw [← hw3, ← hab]
 have hb3 : Below w2.heap.size w2 w3 := by rw [hw3]; exact (Below.refl _ _).alloc (Nat.le_refl _) _
 have LA : Hid (w3.cell? ⟨ab, 0, none⟩ = some (.int .i64 (-14)) ∧ w3.cell? ⟨ab, 1, none⟩ = some (.int .i64 5) ∧ ab < w3.heap.size) := by
  rw [hw3, hab]
  exact ⟨by simp [go_sem], by simp [go_sem], by simp⟩
 have HB := Lib.hid (below_on HB.out hb3)
 clear hb3 hw3 hab
 go_wp2_with fail
 (with_reducible refine (((CE _).out).mono ?_))
 rintro e w4 ⟨hb4, ca, ra, c0, c1, rfl, hat⟩
 have LA : Hid (w4.cell? ⟨ab, 0, none⟩ = some (.int .i64 (-14)) ∧ w4.cell? ⟨ab, 1, none⟩ = some (.int .i64 5) ∧ ab < w4.heap.size) := ⟨(hb4.cell (p := ⟨ab, 0, none⟩) LA.out.2.2).trans LA.out.1, (hb4.cell (p := ⟨ab, 1, none⟩) LA.out.2.2).trans LA.out.2.1, Nat.lt_of_lt_of_le LA.out.2.2 hb4.size⟩
 have HB := Lib.hid (below_on HB.out hb4)
 have hb5 : Below w4.heap.size w4 ((w4.alloc (Obj.cells #[.int .i64 8, .int .i64 5, .int .i64 6, .int .i64 5] 27)).alloc (Obj.cells #[.int .i64 (-2), .int .i64 5, .int .i64 (-1), .int .i64 5] 27)) := ((Below.refl _ _).alloc (Nat.le_refl _) _).alloc (by simp) _
 have CC : Hid (Calls Tryz.prog 8 #[.agg #[.slice ca 2 2, .slice ra 2 2], .agg #[.int .i64 (-14), .int .i64 5, .slice (some ⟨w4.heap.size, 0, none⟩) 2 2, .slice (some ⟨w4.heap.size + 1, 0, none⟩) 2 2]] ((w4.alloc (Obj.cells #[.int .i64 8, .int .i64 5, .int .i64 6, .int .i64 5] 27)).alloc (Obj.cells #[.int .i64 (-2), .int .i64 5, .int .i64 (-1), .int .i64 5] 27)) fun e w' => Below ((w4.alloc (Obj.cells #[.int .i64 8, .int .i64 5, .int .i64 6, .int .i64 5] 27)).alloc (Obj.cells #[.int .i64 (-2), .int .i64 5, .int .i64 (-1), .int .i64 5] 27)).heap.size ((w4.alloc (Obj.cells #[.int .i64 8, .int .i64 5, .int .i64 6, .int .i64 5] 27)).alloc (Obj.cells #[.int .i64 (-2), .int .i64 5, .int .i64 (-1), .int .i64 5] 27)) w' ∧ e = .returned (.tuple #[.bool true, .int .i64 0])) :=
  ex_check ca ra c0 c1 _ _ _ (hat.on hb5) (fun _ => ⟨_, 0, rfl, by simp; omega, two_of (by simp [go_sem, exXF]) (by simp [go_sem, exXF])⟩) (fun _ => ⟨_, 0, rfl, by simp, two_of (by simp [go_sem, exYF]) (by simp [go_sem, exYF])⟩)
 have H5 := Lib.hid hb5
 clear hb4 hb5 hat
 go_wp2_with fail
 (with_reducible refine ((CC.out).mono ?_))
 rintro e w5 ⟨hb6, rfl⟩
 have hb7 := below_on H5.out hb6
 have LA : Hid (w5.cell? ⟨ab, 0, none⟩ = some (.int .i64 (-14)) ∧ w5.cell? ⟨ab, 1, none⟩ = some (.int .i64 5) ∧ ab < w5.heap.size) := ⟨(hb7.cell (p := ⟨ab, 0, none⟩) LA.out.2.2).trans LA.out.1, (hb7.cell (p := ⟨ab, 1, none⟩) LA.out.2.2).trans LA.out.2.1, Nat.lt_of_lt_of_le LA.out.2.2 hb7.size⟩
 have HB := Lib.hid (below_on HB.out hb7)
 clear hb6 hb7 H5 CC CE
 go_upto_region 4 with fail
 obtain ⟨w6, hw6⟩ : ∃ W, W = ((((w5.alloc (Obj.cells #[.int .i64 0] 3)).alloc (Obj.cells #[.int .i64 1] 3)).alloc (Obj.cells #[.int .i64 1] 3)).alloc (Obj.cells #[.slice (some ⟨w5.heap.size + 1, 0, none⟩) 1 1, .int .i64 2, .int .i64 3, .slice (some ⟨w5.heap.size + 1 + 1, 0, none⟩) 1 1, .int .i64 1, .int .i64 2] 53)).alloc (Obj.cells #[.slice (some ⟨w5.heap.size, 0, none⟩) 1 1, .slice (some ⟨w5.heap.size + 1 + 1 + 1, 0, none⟩) 2 2] 25) := ⟨_, rfl⟩
 rw [← hw6]
 obtain ⟨nb, hnb⟩ : ∃ x, x = w5.heap.size + 1 + 1 + 1 + 1 := ⟨_, rfl⟩
 rw [← hnb]
 have hb6 : Below w5.heap.size w5 w6 := by rw [hw6]; exact (((((Below.refl _ _).alloc (Nat.le_refl _) _).alloc (by simp) _).alloc (by simp; omega) _).alloc (by simp; omega) _).alloc (by simp; omega) _
 have hat6 : (noP (some ⟨w5.heap.size, 0, none⟩) (some ⟨w5.heap.size + 1 + 1 + 1, 0, none⟩) (some ⟨w5.heap.size + 1, 0, none⟩) (some ⟨w5.heap.size + 1 + 1, 0, none⟩)).At w6 := by
  rw [hw6]
  refine ⟨fun _ => ⟨_, 0, rfl, by simp; omega, ?_⟩, fun _ => ⟨_, 0, rfl, by simp, ?_⟩, ?_⟩
  ·exact one_of (by simp [noP, go_sem])
  ·exact two_of (by simp [noP, go_sem]) (by simp [noP, go_sem])
  ·exact two_of (fun _ => ⟨w5.heap.size + 1, 0, by simp [noP], by simp, one_of (by simp [noP, go_sem])⟩) (fun _ => ⟨w5.heap.size + 1 + 1, 0, by simp [noP], by simp, one_of (by simp [noP, go_sem])⟩)
 have n0 : w6.cell? ⟨nb, 0, none⟩ = some (.slice (some ⟨w5.heap.size, 0, none⟩) 1 1) := by rw [hw6, hnb]; simp [go_sem]
 have n1 : w6.cell? ⟨nb, 1, none⟩ = some (.slice (some ⟨w5.heap.size + 1 + 1 + 1, 0, none⟩) 2 2) := by rw [hw6, hnb]; simp [go_sem]
 have hb7 : Below w6.heap.size w6 (w6.alloc (Obj.cells #[.int .i64 1, .int .i64 1, .int .i64 (-1), .int .i64 1] 27)) := (Below.refl _ _).alloc (Nat.le_refl _) _
 have CR := Lib.hid (no_refutes _ _ _ _ (some ⟨w6.heap.size, 0, none⟩) (w6.alloc (Obj.cells #[.int .i64 1, .int .i64 1, .int .i64 (-1), .int .i64 1] 27)) (hat6.on hb7) (fun _ => ⟨_, 0, rfl, by simp, two_of (by simp [go_sem, noY]) (by simp [go_sem, noY])⟩))
 have hb8 := below_on hb6 hb7
 have H8 := Lib.hid hb8
 have HB := Lib.hid (below_on HB.out hb8)
 clear hb6 hb7 hb8 hat6 hw6 hnb
 go_wp2_with fail
 (with_reducible refine ((CR.out).mono ?_))
 rintro e w7 ⟨rfl, hb9⟩
 have hb10 := below_on H8.out hb9
 have k0 := (hb10.cell (p := ⟨ab, 0, none⟩) LA.out.2.2).trans LA.out.1
 have k1 := (hb10.cell (p := ⟨ab, 1, none⟩) LA.out.2.2).trans LA.out.2.1
 have HB := Lib.hid (below_on HB.out hb9)
 clear hb9 hb10 n0 n1 CR H8 LA
 go_wp2_with fail
 go_ret
 exact ⟨rfl, HB.out⟩
end Go.Proofs.YtggpdhdbeokkcaaGreat

namespace Go.Proofs.YtggpdhdbeokkcaaGreat
set_option linter.unusedVariables false
open Go.RowKit Go.Shelf

theorem few1_any (ca : Option Addr) (L kc : Nat) (k r : Int) (w : World) :
  Calls Tryz.prog 23 #[.agg #[.slice ca L kc, .int .i64 k, .int .i64 r]] w fun e w' => e = .returned (.bool (decide (14 < L))) ∧ Below w.heap.size w w' := by
 have hb1 : Below w.heap.size w (w.alloc (Obj.cells #[.slice ca L kc, .int .i64 k, .int .i64 r] 53)) := (Below.refl _ _).alloc (Nat.le_refl _) _
 have HB := Lib.hid hb1
 have hd : decide ((14 : Int) < (L : Int)) = decide (14 < L) := by
  by_cases h : 14 < L
  ·rw [decide_eq_true h, decide_eq_true (by omega)]
  ·rw [decide_eq_false h, decide_eq_false (by omega)]
 obtain ⟨t, ht⟩ : ∃ t, decide (14 < L) = t := ⟨_, rfl⟩
 rw [ht] at hd
 rw [ht]
 clear hb1 ht
 go_enter Tryz.func23, Tryz.ntmps23
 go_wp2_with fail
 go_ret
 exact ⟨by first | rfl | (simp [hd]) | (simp [← hd]), HB.out⟩
theorem short1_any (xa : Option Addr) (N xc : Nat) (w : World) :
  Calls Tryz.prog 25 #[.slice xa N xc] w fun e w' => e = .returned (.bool (decide (20 < N))) ∧ Below w.heap.size w w' := by
 have hd : decide ((20 : Int) < (N : Int)) = decide (20 < N) := by
  by_cases h : 20 < N
  ·rw [decide_eq_true h, decide_eq_true (by omega)]
  ·rw [decide_eq_false h, decide_eq_false (by omega)]
 obtain ⟨t, ht⟩ : ∃ t, decide (20 < N) = t := ⟨_, rfl⟩
 rw [ht] at hd
 rw [ht]
 clear ht
 go_enter Tryz.func25, Tryz.ntmps25
 go_wp2_with fail
 go_ret
 exact ⟨by first | rfl | (simp [hd]) | (simp [← hd]), Below.refl _ _⟩

def FewP (p : PgD) : Prop := p.n ≤ 14 ∧ p.m ≤ 8 ∧ ∀ i, i < p.m → p.Ln i ≤ 14
set_option maxHeartbeats 4000000 in
theorem few_any (p : PgD) (v : Bool) (hv : v = true ↔ FewP p) (w : World) (hp : p.At w) :
  Calls Tryz.prog 6 #[p.val] w fun e w' => e = .returned (.bool v) ∧ Below w.heap.size w w' := by
 unfold PgD.val
 have hb1 : Below w.heap.size w (w.alloc (Obj.cells #[Value.slice p.ca p.n p.cc, .slice p.ra p.m p.rc] 25)) := (Below.refl _ _).alloc (Nat.le_refl _) _
 obtain ⟨w1, hw1⟩ : ∃ W, W = w.alloc (Obj.cells #[Value.slice p.ca p.n p.cc, .slice p.ra p.m p.rc] 25) := ⟨_, rfl⟩
 obtain ⟨xb, hxb⟩ : ∃ x, x = w.heap.size := ⟨_, rfl⟩
 have hB : Blk w1 xb (.slice p.ca p.n p.cc) (.slice p.ra p.m p.rc) := by rw [hw1, hxb]; exact Blk.new _ _ _ _
 rw [← hw1] at hb1
 have HP := Lib.hid (hp.on hb1)
 have HB := Lib.hid hb1
 have HV := Lib.hid hv
 have q0 := hB.2.1
 have q1 := hB.2.2
 have no : ¬ FewP p → v = false := fun h => by
  cases e : v
  ·rfl
  ·exact absurd (hv.1 e) h
 have HN := Lib.hid no
 clear hb1 hp hv no hB
 have eg : ∀ args w, (callFunc 23 args).run Tryz.prog w = .ok (.enter 23 args) w := enters_of Tryz.func23 (by kernel_rfl) rfl
 go_enter Tryz.func6, Tryz.ntmps6
 go_upto_region 1 with fail
 rw [← hxb, ← hw1]
 clear hxb hw1
 by_cases h1 : p.n ≤ 14
 ·have t1 : decide (((p.n : Nat) : Int) ≤ 14) = true := decide_eq_true (by omega)
  by_cases h2 : p.m ≤ 8
  ·have t2 : decide (((p.m : Nat) : Int) ≤ 8) = true := decide_eq_true (by omega)
   have CC := Lib.hid (contR_any 23 #[] p (fun i => decide (14 < p.Ln i)) w1 HP.out (by omega) eg (fun i hi W hb => few1_any _ _ _ _ _ W))
   obtain ⟨t, ht⟩ : ∃ t, decide (∃ i, i < p.m ∧ decide (14 < p.Ln i) = true) = t := ⟨_, rfl⟩
   have HF : Hid (v = !t) := by
    show v = !t
    rw [← ht]
    by_cases h : ∃ i, i < p.m ∧ decide (14 < p.Ln i) = true
    ·rw [decide_eq_true h]
     obtain ⟨i, hi, hq⟩ := h
     exact HN.out (fun hf => by have := hf.2.2 i hi; have := of_decide_eq_true hq; omega)
    ·rw [decide_eq_false h]
     exact HV.out.2 ⟨h1, h2, fun i hi => by
      rcases Nat.lt_or_ge 14 (p.Ln i) with g | g
      ·exact absurd ⟨i, hi, decide_eq_true g⟩ h
      ·exact g⟩
   rw [ht] at CC
   clear ht eg
   go_wp2_with fail
   (with_reducible refine ((CC.out).mono ?_))
   rintro e w3 ⟨rfl, hb⟩
   have HB3 := Lib.hid (below_on HB.out hb)
   clear CC hb q0 q1
   go_wp2_with fail
   go_ret
   exact ⟨by rw [HF.out]; rfl, HB3.out⟩
  ·have t2 : decide (((p.m : Nat) : Int) ≤ 8) = false := decide_eq_false (by omega)
   have ev := HN.out (fun h => h2 h.2.1)
   subst ev
   go_wp2_with fail
   go_ret
   exact ⟨rfl, HB.out⟩
 ·have t1 : decide (((p.n : Nat) : Int) ≤ 14) = false := decide_eq_false (by omega)
  have ev := HN.out (fun h => h1 h.1)
  subst ev
  go_wp2_with fail
  go_ret
  exact ⟨rfl, HB.out⟩

end Go.Proofs.YtggpdhdbeokkcaaGreat

namespace Go.Proofs.YtggpdhdbeokkcaaGreat
set_option linter.unusedVariables false
open Go.RowKit Go.Shelf

/-- Lists, read one by one. -/
theorem idxS_any (fn : Nat) (bnd : Array Value) (xa : Option Addr) (m rc : Nat) (La : Nat → Option Addr) (Ln Kc : Nat → Nat) (q : Nat → Bool) (w : World) (hx : 0 < m → ∃ g o, xa = some ⟨g, o, none⟩ ∧ g < w.heap.size ∧ ∀ k, k < m → w.cell? ⟨g, o + k, none⟩ = some (.slice (La k) (Ln k) (Kc k))) (hm : m ≤ 9223372036854775806) (eg : ∀ args w, (callFunc fn args).run Tryz.prog w = .ok (.enter fn args) w)
  (CP : ∀ i, i < m → ∀ W, Below w.heap.size w W → Calls Tryz.prog fn (#[.slice (La i) (Ln i) (Kc i)] ++ bnd) W fun e w' => e = .returned (.bool (q i)) ∧ Below W.heap.size W w') :
  Calls Tryz.prog 62 #[.slice xa m rc, .func (.func fn) #[] bnd] w fun e w' => Below w.heap.size w w' ∧ ((e = .returned (.int .i64 (-1)) ∧ ∀ i, i < m → q i = false) ∨ ∃ i, i < m ∧ e = .returned (.int .i64 (i : Nat)) ∧ q i = true) := by
 have HP := Lib.hid CP
 have HX := Lib.hid hx
 clear CP hx
 go_enter Tryz.func62, Tryz.ntmps62
 go_wp2_with fail
 have S0 : Hid (Below w.heap.size w w ∧ ∀ l, l < 0 → q l = false) := ⟨Below.refl _ _, fun l h => by omega⟩
 go_loopg [8] m (fun g s8 wx => ∃ i : Nat, s8 = .int .i64 i ∧ g = m - i ∧ i ≤ m ∧ Hid (Below w.heap.size w wx ∧ ∀ l, l < i → q l = false))
 case atStart => exact ⟨0, rfl, rfl, Nat.zero_le _, S0⟩
 case round =>
  clear S0
  obtain ⟨i, rfl, rfl, hi, S⟩ := hrel
  rename World => W1
  by_cases hlt : i < m
  ·have wk : IntKind.i64.wrap ((i : Int) + 1) = ((i + 1 : Nat) : Int) := by rw [IntWalk.i64_in _ (by omega)]; omega
   obtain ⟨g, o, ex, hg, hr⟩ := HX.out (by omega)
   have p1 := (S.out.1.cell (p := ⟨g, o + i, none⟩) hg).trans (hr i hlt)
   have CI := Lib.hid (HP.out i hlt W1 S.out.1)
   rw [ex]
   clear hr
   go_wp2_with fail
   (with_reducible refine ((CI.out).mono ?_))
   rintro e w2 ⟨rfl, hb⟩
   have HB := Lib.hid (below_on S.out.1 hb)
   clear CI p1 hb
   cases hq : q i
   ·have HQ := Lib.hid hq
    go_wp2_with fail
    have T : Hid (Below w.heap.size w w2 ∧ ∀ l, l < i + 1 → q l = false) := ⟨HB.out, fun l hl => by
     by_cases e : l = i
     ·rw [e]; exact HQ.out
     ·exact S.out.2 l (by omega)⟩
    rw [← ex]
    go_roundg (m - (i + 1))
    case measure => omega
    case rel => exact ⟨i + 1, rfl, rfl, by omega, T⟩
   ·have HQ := Lib.hid hq
    go_wp2_with fail
    go_ret
    exact ⟨HB.out, .inr ⟨i, hlt, rfl, HQ.out⟩⟩
  ·have e : i = m := by omega
   subst e
   go_wp2_with fail
   go_ret
   exact ⟨S.out.1, .inl ⟨rfl, S.out.2⟩⟩
theorem contS_any (fn : Nat) (bnd : Array Value) (xa : Option Addr) (m rc : Nat) (La : Nat → Option Addr) (Ln Kc : Nat → Nat) (q : Nat → Bool) (w : World) (hx : 0 < m → ∃ g o, xa = some ⟨g, o, none⟩ ∧ g < w.heap.size ∧ ∀ k, k < m → w.cell? ⟨g, o + k, none⟩ = some (.slice (La k) (Ln k) (Kc k))) (hm : m ≤ 9223372036854775806) (eg : ∀ args w, (callFunc fn args).run Tryz.prog w = .ok (.enter fn args) w)
  (CP : ∀ i, i < m → ∀ W, Below w.heap.size w W → Calls Tryz.prog fn (#[.slice (La i) (Ln i) (Kc i)] ++ bnd) W fun e w' => e = .returned (.bool (q i)) ∧ Below W.heap.size W w') (v : Bool) (hv : v = true ↔ ∃ i, i < m ∧ q i = true) :
  Calls Tryz.prog 24 #[.slice xa m rc, .func (.func fn) #[] bnd] w fun e w' => e = .returned (.bool v) ∧ Below w.heap.size w w' := by
 have CI := Lib.hid (idxS_any fn bnd xa m rc La Ln Kc q w hx hm eg CP)
 have HV := Lib.hid hv
 clear hx eg CP hv
 go_enter Tryz.func24, Tryz.ntmps24
 go_wp2_with fail
 (with_reducible refine ((CI.out).mono ?_))
 rintro e w2 ⟨hb, ⟨rfl, h⟩ | ⟨i, hi, rfl, h⟩⟩
 ·have HD : Hid (v = false) := by
   cases v
   ·rfl
   ·obtain ⟨i, hi, hq⟩ := HV.out.1 rfl
    rw [h i hi] at hq; cases hq
  clear h
  go_wp2_with fail
  go_ret
  exact ⟨by rw [HD.out]; simp, hb⟩
 ·have HD : Hid (v = true) := HV.out.2 ⟨i, hi, h⟩
  clear h
  go_wp2_with fail
  go_ret
  exact ⟨by rw [HD.out]; simp, hb⟩


set_option maxHeartbeats 4000000 in
theorem short_any (xa : Option Addr) (Kn xc : Nat) (La : Nat → Option Addr) (Ln Kc : Nat → Nat) (w : World) (hx : 0 < Kn → ∃ g o, xa = some ⟨g, o, none⟩ ∧ g < w.heap.size ∧ ∀ k, k < Kn → w.cell? ⟨g, o + k, none⟩ = some (.slice (La k) (Ln k) (Kc k))) (hK : Kn ≤ 1000) (v : Bool) (hv : v = true ↔ ∀ k, k < Kn → Ln k ≤ 20) :
  Calls Tryz.prog 7 #[.slice xa Kn xc] w fun e w' => e = .returned (.bool v) ∧ Below w.heap.size w w' := by
 have eg : ∀ args w, (callFunc 25 args).run Tryz.prog w = .ok (.enter 25 args) w := enters_of Tryz.func25 (by kernel_rfl) rfl
 have CC := Lib.hid (contS_any 25 #[] xa Kn xc La Ln Kc (fun i => decide (20 < Ln i)) w hx (by omega) eg (fun i hi W _ => short1_any _ _ _ W) (!v) (by
  constructor
  ·intro h
   refine Classical.byContradiction fun q => ?_
   have : v = true := hv.2 fun j hj => by
    rcases Nat.lt_or_ge 20 (Ln j) with g | g
    ·exact absurd ⟨j, hj, decide_eq_true g⟩ q
    ·exact g
   rw [this] at h; cases h
  ·rintro ⟨i, hi, h⟩
   cases e : v
   ·rfl
   ·have := hv.1 e i hi
    have := of_decide_eq_true h
    omega))
 clear hx eg hv
 go_enter Tryz.func7, Tryz.ntmps7
 go_wp2_with fail
 (with_reducible refine ((CC.out).mono ?_))
 rintro e w2 ⟨rfl, hb⟩
 have HB := Lib.hid hb
 clear hb CC
 go_wp2_with fail
 go_ret
 exact ⟨by simp, HB.out⟩
end Go.Proofs.YtggpdhdbeokkcaaGreat

namespace Go.Proofs.YtggpdhdbeokkcaaGreat
set_option linter.unusedVariables false

end Go.Proofs.YtggpdhdbeokkcaaGreat

namespace Go.Proofs.YtggpdhdbeokkcaaGreat
set_option linter.unusedVariables false
open Go.RowKit Go.Shelf

end Go.Proofs.YtggpdhdbeokkcaaGreat

namespace Go.Proofs.YtggpdhdbeokkcaaGreat
set_option linter.unusedVariables false
open Go.RowKit Go.Shelf
end Go.Proofs.YtggpdhdbeokkcaaGreat

namespace Go.Proofs.YtggpdhdbeokkcaaGreat
set_option linter.unusedVariables false
open Go.RowKit Go.Shelf Go.ChangeShapes Go.WideShapes Go.Joins Go.Deep

/-- A list of numbers at one cell. -/
theorem row_at {H : Type} {enc : TypeId × Value → H} {W : World} {v : Value} {x : DataW H × List MemPlace} {fuel : Nat} (hx : DataW.trod enc Tryz.prog W 0 (fun _ => true) true fuel 22 [v] = some x) :
  ∃ (ra : Option Addr) (n rc : Nat) (f : Nat → Int), v = .slice ra n rc ∧ IRow W ra n f ∧ n ≤ 9223372036854775807 := by
 rcases open_ints Tryz.underlying22 Tryz.underlying3 (by kernel_rfl) hx with ⟨hc, _⟩ | ⟨a, len2, cap2, zs, hc, _, hl, hm, hz, _, hcell, hwf⟩
 ·simp at hc
  subst hc
  exact ⟨none, 0, 0, fun _ => 0, rfl, fun h => by omega, by omega⟩
 ·simp at hc
  subst hc
  simp only [if_true] at hz
  refine ⟨some a, len2, cap2, fun j => zs.getD j 0, rfl, fun hn => ?_, by unfold maxLen at hm; omega⟩
  obtain ⟨sb, so, spot⟩ := a
  have c0 := hcell 0 (by omega)
  have hspot : spot = none := by simpa [Addr.add] using World.cell?_spot c0
  subst hspot
  refine ⟨sb, so, rfl, Lib.lt_of_cell (by simpa [Addr.add] using c0), fun j hj => ?_⟩
  have h1 := hcell j (by omega)
  simpa [Addr.add_lit] using h1

structure RwD where
 ca : Option Addr
 ln : Nat
 kc : Nat
 z : Nat → Int
 kd : Int
 rt : Int
instance : Inhabited RwD := ⟨⟨none, 0, 0, fun _ => 0, 0, 0⟩⟩

set_option maxRecDepth 1000000 in
theorem open_prog {H : Type} {enc : TypeId × Value → H} {W : World} {base : Nat} {v : Value} {d : DataW H} {p : List MemPlace} (hval : Value.okWide Tryz.prog W .any base 25 v) (h : DataW.Trod enc Tryz.prog W 0 (fun _ => true) true 25 v d p) :
  ∃ q : PgD, v = q.val ∧ q.At W ∧ q.Sm := by
 obtain ⟨v0, v1, y0, y1, n, rfl, _, _, h0, h1⟩ := open_agg2 Tryz.underlying25 (by kernel_rfl) (by kernel_rfl) hval h
 obtain ⟨ca, nn, cc, C, rfl, hc, hnn⟩ := row_at h0
 rcases open_slice Tryz.underlying23 h1 with ⟨hc1, _⟩ | ⟨a, len, cap, m, k, D, Pl, hc1, _, hl, hm, hmm, _, hx⟩
 ·simp at hc1
  subst hc1
  exact ⟨⟨ca, nn, cc, C, none, 0, 0, fun _ => none, fun _ => 0, fun _ => 0, fun _ _ => 0, fun _ => 0, fun _ => 0⟩, rfl, ⟨hc, fun h => by simp at h, fun i h => by simp at h⟩, ⟨hnn, by show (0 : Nat) ≤ _; omega, fun i h => by simp at h⟩⟩
 ·simp at hc1
  subst hc1
  simp only [if_true] at hmm
  have ce : Tryz.prog.cellsOf 53 = 3 := by kernel_rfl
  have cr : Tryz.prog.cellsOf 22 = 1 := by kernel_rfl
  have ci : Tryz.prog.cellsOf 3 = 1 := by kernel_rfl
  have each : ∀ i, i < m → ∃ q : RwD, W.cell? (a.add (i * 3)) = some (.slice q.ca q.ln q.kc) ∧ W.cell? (a.add (i * 3 + 1)) = some (.int .i64 q.kd) ∧ W.cell? (a.add (i * 3 + 2)) = some (.int .i64 q.rt) ∧ IRow W q.ca q.ln q.z ∧ q.ln ≤ 9223372036854775807 := fun i hi => by
   obtain ⟨cs', g1, g2⟩ := hx i hi
   rw [ce] at g1
   obtain ⟨_, hlen, hcell⟩ := World.cells?_some g1
   obtain ⟨xs, k2, hk, hxy, _, hxl, hf⟩ := DataW.trod_struct Tryz.underlying53 g2
   match xs, hxl, cs', hlen with
   | [x0, x1, x2], _, [u0, u1, u2], _ =>
    have f0 := hf 0 _ rfl
    have f1 := hf 1 _ rfl
    have f2 := hf 2 _ rfl
    have e0 := hcell 0 (by omega)
    have e1 := hcell 1 (by omega)
    have e2 := hcell 2 (by omega)
    rw [add_add] at e0 e1 e2
    have f0' : DataW.trod enc Tryz.prog W 0 (fun _ => true) true k2 22 [u0] = some x0 := by simpa [cr, ci] using f0
    have f1' : DataW.trod enc Tryz.prog W 0 (fun _ => true) true k2 3 [u1] = some x1 := by simpa [cr, ci] using f1
    have f2' : DataW.trod enc Tryz.prog W 0 (fun _ => true) true k2 3 [u2] = some x2 := by simpa [cr, ci] using f2
    obtain ⟨ra, n2, rc, z, rfl, hr, hn2⟩ := row_at f0'
    obtain ⟨kd, hkd, _, _⟩ := DataW.trod_int Tryz.underlying3 f1'
    obtain ⟨rt, hrt, _, _⟩ := DataW.trod_int Tryz.underlying3 f2'
    simp at hkd hrt
    subst hkd
    subst hrt
    exact ⟨⟨ra, n2, rc, z, kd, rt⟩, by simpa using e0, by simpa using e1, by simpa using e2, hr, hn2⟩
  obtain ⟨q, hq⟩ := choose_lt each
  refine ⟨⟨ca, nn, cc, C, some a, len, cap, fun i => (q i).ca, fun i => (q i).ln, fun i => (q i).kc, fun i => (q i).z, fun i => (q i).kd, fun i => (q i).rt⟩, rfl, ⟨hc, fun hm0 => ?_, fun i hi => (hq i (by have : i < len := hi; omega)).2.2.2.1⟩, ⟨hnn, by show len ≤ _; unfold maxLen at hm; omega, fun i hi => (hq i (by have : i < len := hi; omega)).2.2.2.2⟩⟩
  have hm0 : 0 < len := hm0
  obtain ⟨sb, so, spot⟩ := a
  have c0 := (hq 0 (by omega)).1
  have hspot : spot = none := by simpa [Addr.add] using World.cell?_spot c0
  subst hspot
  refine ⟨sb, so, rfl, Lib.lt_of_cell (by simpa [Addr.add] using c0), fun i hi => ?_⟩
  have hi : i < len := hi
  have g := hq i (by omega)
  exact ⟨by simpa [Addr.add_lit] using g.1, by simpa [Addr.add_lit, Nat.add_assoc] using g.2.1, by simpa [Addr.add_lit, Nat.add_assoc] using g.2.2.1⟩
end Go.Proofs.YtggpdhdbeokkcaaGreat
