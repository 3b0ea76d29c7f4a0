/- Layer 5: Check. -/
import Derived.Test.YtibciljoanicfaaPSums
namespace Go.Proofs.Ytibciljoanicfaa
set_option linter.unusedVariables false
open Go.RowKit Go.Shelf

structure CkAR (xb kb ab n m pcc prc yc : Nat) (pca pra ya : Option Addr) (a d va vd : Int) (Wc : World) (L : Nat → Bool) (v : Nat → Value) (W : World) : Prop where
  st : Below Wc.heap.size Wc W
  f0 : Had L 0 (v 83 = .agg #[.slice pca n pcc, .slice pra m prc])
  f1 : Had L 1 (v 84 = .pointer (some ⟨kb, 3, none⟩))
  f2 : Had L 2 (v 85 = .slice ya m yc)
  f3 : Had L 3 (v 86 = .bool false)
  f4 : Had L 4 (v 87 = .bool false)
  f5 : Had L 5 (v 88 = undef)
  f6 : Had L 6 (v 89 = undef)
  f7 : Had L 7 (v 90 = undef)
  f8 : Had L 8 (v 91 = undef)
  f9 : Had L 9 (v 92 = .bool false)
  f10 : Had L 10 (v 93 = .bool false)
  f11 : Had L 11 (v 94 = undef)
  f12 : Had L 12 (v 95 = undef)
  f13 : Had L 13 (v 96 = undef)
  f14 : Had L 14 (v 97 = undef)
  f15 : Had L 15 (v 98 = undef)
  f16 : Had L 16 (v 99 = undef)
  f17 : Had L 17 (v 100 = undef)
  f18 : Had L 18 (v 101 = undef)
  f19 : Had L 19 (v 102 = undef)
  f20 : Had L 20 (v 103 = .bool false)
  f21 : Had L 21 (v 13 = .bool false)
  w2 : Had L 2 (∀ j ∈ [1], L j = true)
  w3 : Had L 3 (∀ j ∈ [0, 2], L j = true)
  w4 : Had L 4 (∀ j ∈ [3], L j = true)
  w5 : Had L 5 (∀ j ∈ [4], L j = true)
  w6 : Had L 6 (∀ j ∈ [4], L j = true)
  w7 : Had L 7 (∀ j ∈ [4, 6], L j = true)
  w8 : Had L 8 (∀ j ∈ [4, 5, 7], L j = true)
  w9 : Had L 9 (∀ j ∈ [4, 8], L j = true)
  w10 : Had L 10 (∀ j ∈ [9], L j = true)
  w11 : Had L 11 (∀ j ∈ [10], L j = true)
  w12 : Had L 12 (∀ j ∈ [10], L j = true)
  w13 : Had L 13 (∀ j ∈ [10, 12], L j = true)
  w14 : Had L 14 (∀ j ∈ [10, 13], L j = true)
  w15 : Had L 15 (∀ j ∈ [10, 11, 14], L j = true)
  w16 : Had L 16 (∀ j ∈ [10, 15], L j = true)
  w17 : Had L 17 (∀ j ∈ [10], L j = true)
  w18 : Had L 18 (∀ j ∈ [10, 17], L j = true)
  w19 : Had L 19 (∀ j ∈ [10, 16, 18], L j = true)
  w20 : Had L 20 (∀ j ∈ [10, 19], L j = true)
  w21 : Had L 21 (∀ j ∈ [20], L j = true)

structure CkBR (xb kb ab n m pcc prc yc : Nat) (pca pra ya : Option Addr) (a d va vd : Int) (Wc : World) (L : Nat → Bool) (v : Nat → Value) (W : World) : Prop where
  st : Below Wc.heap.size Wc W
  f0 : Had L 0 (v 83 = .agg #[.slice pca n pcc, .slice pra m prc])
  f1 : Had L 1 (v 84 = .pointer (some ⟨kb, 3, none⟩))
  f2 : Had L 2 (v 85 = .slice ya m yc)
  f3 : Had L 3 (v 86 = .bool true)
  f4 : Had L 4 (v 87 = .bool true)
  f5 : Had L 5 (v 88 = .slice (some ⟨ab, 0, none⟩) (n + 1) (n + 1))
  f6 : Had L 6 (v 89 = .pointer (some ⟨xb, 0, none⟩))
  f7 : Had L 7 (v 90 = .slice pca n pcc)
  f8 : Had L 8 (v 91 = .bool false)
  f9 : Had L 9 (v 92 = .bool false)
  f10 : Had L 10 (v 93 = .bool false)
  f11 : Had L 11 (v 94 = undef)
  f12 : Had L 12 (v 95 = undef)
  f13 : Had L 13 (v 96 = undef)
  f14 : Had L 14 (v 97 = undef)
  f15 : Had L 15 (v 98 = undef)
  f16 : Had L 16 (v 99 = undef)
  f17 : Had L 17 (v 100 = undef)
  f18 : Had L 18 (v 101 = undef)
  f19 : Had L 19 (v 102 = undef)
  f20 : Had L 20 (v 103 = .bool false)
  f21 : Had L 21 (v 13 = .bool false)
  w2 : Had L 2 (∀ j ∈ [1], L j = true)
  w3 : Had L 3 (∀ j ∈ [0, 2], L j = true)
  w4 : Had L 4 (∀ j ∈ [3], L j = true)
  w5 : Had L 5 (∀ j ∈ [4], L j = true)
  w6 : Had L 6 (∀ j ∈ [4], L j = true)
  w7 : Had L 7 (∀ j ∈ [4, 6], L j = true)
  w8 : Had L 8 (∀ j ∈ [4, 5, 7], L j = true)
  w9 : Had L 9 (∀ j ∈ [4, 8], L j = true)
  w10 : Had L 10 (∀ j ∈ [9], L j = true)
  w11 : Had L 11 (∀ j ∈ [10], L j = true)
  w12 : Had L 12 (∀ j ∈ [10], L j = true)
  w13 : Had L 13 (∀ j ∈ [10, 12], L j = true)
  w14 : Had L 14 (∀ j ∈ [10, 13], L j = true)
  w15 : Had L 15 (∀ j ∈ [10, 11, 14], L j = true)
  w16 : Had L 16 (∀ j ∈ [10, 15], L j = true)
  w17 : Had L 17 (∀ j ∈ [10], L j = true)
  w18 : Had L 18 (∀ j ∈ [10, 17], L j = true)
  w19 : Had L 19 (∀ j ∈ [10, 16, 18], L j = true)
  w20 : Had L 20 (∀ j ∈ [10, 19], L j = true)
  w21 : Had L 21 (∀ j ∈ [20], L j = true)

structure CkCR (xb kb ab n m pcc prc yc : Nat) (pca pra ya : Option Addr) (a d va vd : Int) (Wc : World) (L : Nat → Bool) (v : Nat → Value) (W : World) : Prop where
  st : Below Wc.heap.size Wc W
  f0 : Had L 0 (v 83 = .agg #[.slice pca n pcc, .slice pra m prc])
  f1 : Had L 1 (v 84 = .pointer (some ⟨kb, 3, none⟩))
  f2 : Had L 2 (v 85 = .slice ya m yc)
  f3 : Had L 3 (v 86 = .bool true)
  f4 : Had L 4 (v 87 = .bool true)
  f5 : Had L 5 (v 88 = .slice (some ⟨ab, 0, none⟩) (n + 1) (n + 1))
  f6 : Had L 6 (v 89 = .pointer (some ⟨xb, 0, none⟩))
  f7 : Had L 7 (v 90 = .slice pca n pcc)
  f8 : Had L 8 (v 91 = .bool true)
  f9 : Had L 9 (v 92 = .bool true)
  f10 : Had L 10 (v 93 = .bool true)
  f11 : Had L 11 (v 94 = .slice (some ⟨ab, 0, none⟩) (n + 1) (n + 1))
  f12 : Had L 12 (v 95 = .pointer (some ⟨xb, 0, none⟩))
  f13 : Had L 13 (v 96 = .slice pca n pcc)
  f14 : Had L 14 (v 97 = .int .i64 (n : Int))
  f15 : Had L 15 (v 98 = .pointer (some ⟨ab, n * 2, none⟩))
  f16 : Had L 16 (v 99 = .agg #[.int .i64 a, .int .i64 d])
  f17 : Had L 17 (v 100 = .pointer (some ⟨kb, 0, none⟩))
  f18 : Had L 18 (v 101 = .agg #[.int .i64 va, .int .i64 vd])
  f19 : Had L 19 (v 102 = .bool true)
  f20 : Had L 20 (v 103 = .bool true)
  f21 : Had L 21 (v 13 = .bool true)
  w2 : Had L 2 (∀ j ∈ [1], L j = true)
  w3 : Had L 3 (∀ j ∈ [0, 2], L j = true)
  w4 : Had L 4 (∀ j ∈ [3], L j = true)
  w5 : Had L 5 (∀ j ∈ [4], L j = true)
  w6 : Had L 6 (∀ j ∈ [4], L j = true)
  w7 : Had L 7 (∀ j ∈ [4, 6], L j = true)
  w8 : Had L 8 (∀ j ∈ [4, 5, 7], L j = true)
  w9 : Had L 9 (∀ j ∈ [4, 8], L j = true)
  w10 : Had L 10 (∀ j ∈ [9], L j = true)
  w11 : Had L 11 (∀ j ∈ [10], L j = true)
  w12 : Had L 12 (∀ j ∈ [10], L j = true)
  w13 : Had L 13 (∀ j ∈ [10, 12], L j = true)
  w14 : Had L 14 (∀ j ∈ [10, 13], L j = true)
  w15 : Had L 15 (∀ j ∈ [10, 11, 14], L j = true)
  w16 : Had L 16 (∀ j ∈ [10, 15], L j = true)
  w17 : Had L 17 (∀ j ∈ [10], L j = true)
  w18 : Had L 18 (∀ j ∈ [10, 17], L j = true)
  w19 : Had L 19 (∀ j ∈ [10, 16, 18], L j = true)
  w20 : Had L 20 (∀ j ∈ [10, 19], L j = true)
  w21 : Had L 21 (∀ j ∈ [20], L j = true)

structure CkDR (xb kb ab n m pcc prc yc : Nat) (pca pra ya : Option Addr) (a d va vd : Int) (Wc : World) (L : Nat → Bool) (v : Nat → Value) (W : World) : Prop where
  st : Below Wc.heap.size Wc W
  f0 : Had L 0 (v 83 = .agg #[.slice pca n pcc, .slice pra m prc])
  f1 : Had L 1 (v 84 = .pointer (some ⟨kb, 3, none⟩))
  f2 : Had L 2 (v 85 = .slice ya m yc)
  f3 : Had L 3 (v 86 = .bool true)
  f4 : Had L 4 (v 87 = .bool true)
  f5 : Had L 5 (v 88 = .slice (some ⟨ab, 0, none⟩) (n + 1) (n + 1))
  f6 : Had L 6 (v 89 = .pointer (some ⟨xb, 0, none⟩))
  f7 : Had L 7 (v 90 = .slice pca n pcc)
  f8 : Had L 8 (v 91 = .bool true)
  f9 : Had L 9 (v 92 = .bool true)
  f10 : Had L 10 (v 93 = .bool true)
  f11 : Had L 11 (v 94 = .slice (some ⟨ab, 0, none⟩) (n + 1) (n + 1))
  f12 : Had L 12 (v 95 = .pointer (some ⟨xb, 0, none⟩))
  f13 : Had L 13 (v 96 = .slice pca n pcc)
  f14 : Had L 14 (v 97 = .int .i64 (n : Int))
  f15 : Had L 15 (v 98 = .pointer (some ⟨ab, n * 2, none⟩))
  f16 : Had L 16 (v 99 = .agg #[.int .i64 a, .int .i64 d])
  f17 : Had L 17 (v 100 = .pointer (some ⟨kb, 0, none⟩))
  f18 : Had L 18 (v 101 = .agg #[.int .i64 va, .int .i64 vd])
  f19 : Had L 19 (v 102 = .bool false)
  f20 : Had L 20 (v 103 = .bool false)
  f21 : Had L 21 (v 13 = .bool false)
  w2 : Had L 2 (∀ j ∈ [1], L j = true)
  w3 : Had L 3 (∀ j ∈ [0, 2], L j = true)
  w4 : Had L 4 (∀ j ∈ [3], L j = true)
  w5 : Had L 5 (∀ j ∈ [4], L j = true)
  w6 : Had L 6 (∀ j ∈ [4], L j = true)
  w7 : Had L 7 (∀ j ∈ [4, 6], L j = true)
  w8 : Had L 8 (∀ j ∈ [4, 5, 7], L j = true)
  w9 : Had L 9 (∀ j ∈ [4, 8], L j = true)
  w10 : Had L 10 (∀ j ∈ [9], L j = true)
  w11 : Had L 11 (∀ j ∈ [10], L j = true)
  w12 : Had L 12 (∀ j ∈ [10], L j = true)
  w13 : Had L 13 (∀ j ∈ [10, 12], L j = true)
  w14 : Had L 14 (∀ j ∈ [10, 13], L j = true)
  w15 : Had L 15 (∀ j ∈ [10, 11, 14], L j = true)
  w16 : Had L 16 (∀ j ∈ [10, 15], L j = true)
  w17 : Had L 17 (∀ j ∈ [10], L j = true)
  w18 : Had L 18 (∀ j ∈ [10, 17], L j = true)
  w19 : Had L 19 (∀ j ∈ [10, 16, 18], L j = true)
  w20 : Had L 20 (∀ j ∈ [10, 19], L j = true)
  w21 : Had L 21 (∀ j ∈ [20], L j = true)

/-- The first error of three. -/
def orE (a b c : Int) : Int := if a ≠ 0 then a else if b ≠ 0 then b else c
set_option maxHeartbeats 4000000 in
theorem or_any (B : Nat) (a b c : Int) (w : World) (h0 : w.cell? ⟨B, 0, none⟩ = some (.int .i64 a)) (h1 : w.cell? ⟨B, 1, none⟩ = some (.int .i64 b)) (h2 : w.cell? ⟨B, 2, none⟩ = some (.int .i64 c)) :
    Calls Try.prog 46 #[.slice (some ⟨B, 0, none⟩) 3 3] w fun e w' => e = .returned (.int .i64 (orE a b c)) ∧ Below w.heap.size w w' := by
  have H0 := Lib.hid (And.intro h0 (And.intro h1 h2))
  clear h0 h1 h2
  go_enter Try.func46, Try.ntmps46
  go_wp2_with fail
  have S0 : Hid ((0 : Nat) ≤ 3 ∧ (0 < 0 → a = 0) ∧ (1 < 0 → b = 0) ∧ (2 < 0 → c = 0)) := ⟨by omega, by omega, by omega, by omega⟩
  go_loopg [8] 3 (fun g s8 wx => ∃ i : Nat, s8 = .int .i64 i ∧ g = 3 - i ∧ wx = w ∧ Hid (i ≤ 3 ∧ (0 < i → a = 0) ∧ (1 < i → b = 0) ∧ (2 < i → c = 0)))
  case atStart => exact ⟨0, rfl, rfl, rfl, S0⟩
  case round =>
    clear S0
    obtain ⟨i, rfl, rfl, rfl, S⟩ := hrel
    rename World => W1
    have hi3 := S.out.1
    by_cases hlt : i < 3
    · have wk : IntKind.i64.wrap ((i : Int) + 1) = ((i + 1 : Nat) : Int) := by rw [IntWalk.i64_in _ (by omega)]; omega
      have key : ∃ v, W1.cell? ⟨B, i, none⟩ = some (.int .i64 v) ∧ (v ≠ 0 → orE a b c = v) ∧ (v = 0 → (0 < i + 1 → a = 0) ∧ (1 < i + 1 → b = 0) ∧ (2 < i + 1 → c = 0)) := by
        have hs := S.out
        obtain rfl | rfl | rfl : i = 0 ∨ i = 1 ∨ i = 2 := by omega
        · exact ⟨a, H0.out.1, fun h => if_pos h, fun h => ⟨fun _ => h, fun q => by omega, fun q => by omega⟩⟩
        · have ha := hs.2.1 (by omega)
          exact ⟨b, H0.out.2.1, fun h => by unfold orE; rw [if_neg (fun q => q ha), if_pos h], fun h => ⟨fun _ => ha, fun _ => h, fun q => by omega⟩⟩
        · have ha := hs.2.1 (by omega)
          have hb := hs.2.2.1 (by omega)
          exact ⟨c, H0.out.2.2, fun h => by unfold orE; rw [if_neg (fun q => q ha), if_neg (fun q => q hb)], fun h => ⟨fun _ => ha, fun _ => hb, fun _ => h⟩⟩
      obtain ⟨v, p1, hv1, hv2⟩ := key
      have HV := Lib.hid (And.intro hv1 hv2)
      clear hv1 hv2
      by_cases hz : v = 0
      · subst hz
        have T : Hid (i + 1 ≤ 3 ∧ (0 < i + 1 → a = 0) ∧ (1 < i + 1 → b = 0) ∧ (2 < i + 1 → c = 0)) := ⟨by omega, HV.out.2 rfl⟩
        clear S HV
        go_wp2_with fail
        go_roundg (3 - (i + 1))
        case measure => omega
        case rel => exact ⟨i + 1, rfl, rfl, rfl, T⟩
      · have nb : (v != 0) = true := by simpa using hz
        have HE := Lib.hid (HV.out.1 hz)
        clear S HV
        go_wp2_with fail
        go_ret
        exact ⟨by rw [HE.out]; rfl, Below.refl _ _⟩
    · have e : i = 3 := by omega
      subst e
      have HE : Hid (orE a b c = 0) := by
        show _ = _
        have hs := S.out
        unfold orE
        rw [if_neg (fun q => q (hs.2.1 (by omega))), if_neg (fun q => q (hs.2.2.1 (by omega))), hs.2.2.2 (by omega)]
      clear S
      go_wp2_with fail
      go_ret
      exact ⟨by rw [HE.out]; rfl, Below.refl _ _⟩

theorem orE_two {a b c : Int} (ha : a = 0 ∨ a = 5) (hb : b = 0 ∨ b = 5) (hc : c = 0 ∨ c = 5) : (orE a b c = 0 ∧ a = 0 ∧ b = 0 ∧ c = 0) ∨ (orE a b c = 5 ∧ ¬ (a = 0 ∧ b = 0 ∧ c = 0)) := by
  rcases ha with rfl | rfl <;> rcases hb with rfl | rfl <;> rcases hc with rfl | rfl <;> decide

/-- An answer is right. -/
structure ChkR (p : PgD) (va vd : Int) (X Y : Nat → Int × Int) : Prop where
  fea : FeaR p X
  val : comS p.C X p.n = (va, vd, 0)
  sg : RgS p Y
  col : ∀ j, j < p.n → cmpI (comS (wF p j) Y p.m).1 (comS (wF p j) Y p.m).2.1 (p.C j) ≤ 0
  rgt : comS (wF p p.n) Y p.m = (va, vd, 0)
/-- No sum of a check is too big. -/
def ChkF (p : PgD) (X Y : Nat → Int × Int) : Prop := (∀ i, i < p.m → (comS (p.Z i) X p.n).2.2 = 0) ∧ (comS p.C X p.n).2.2 = 0 ∧ ∀ j, j < p.n + 1 → (comS (wF p j) Y p.m).2.2 = 0
/-- What Check answers. -/
def ChkO (p : PgD) (va vd : Int) (Nx Ny : Nat) (X Y : Nat → Int × Int) (v : Bool) (er : Int) : Prop :=
  (¬ (p.Ok ∧ Vld va vd ∧ FrV Nx X ∧ FrV Ny Y) ∧ v = false ∧ er = 1) ∨
  (p.Ok ∧ Vld va vd ∧ FrV Nx X ∧ FrV Ny Y ∧ ¬ (Nx = p.n ∧ Ny = p.m) ∧ v = false ∧ er = 3) ∨
  (p.Ok ∧ Vld va vd ∧ FrV Nx X ∧ FrV Ny Y ∧ Nx = p.n ∧ Ny = p.m ∧ ¬ ChkF p X Y ∧ v = false ∧ er = 5) ∨
  (p.Ok ∧ Vld va vd ∧ FrV Nx X ∧ FrV Ny Y ∧ Nx = p.n ∧ Ny = p.m ∧ ChkF p X Y ∧ (v = true ↔ ChkR p va vd X Y) ∧ er = 0)

set_option maxRecDepth 100000 in
set_option maxHeartbeats 16000000 in
theorem Check_any (p : PgD) (hs : p.Sm) (va vd : Int) (xa : Option Addr) (Nx xc : Nat) (X : Nat → Int × Int) (ya : Option Addr) (Ny yc : Nat) (Y : Nat → Int × Int) (w : World) (hp : p.At w) (hx : IFr w xa Nx X) (hy : IFr w ya Ny Y) (hbx : FrB Nx X) (hby : FrB Ny Y) (hbv : FrB 1 (fun _ => (va, vd))) (hNx : Nx ≤ 1000) (hNy : Ny ≤ 1000) :
    Calls Try.prog 16 #[p.val, .agg #[.int .i64 va, .int .i64 vd, .slice xa Nx xc, .slice ya Ny yc]] w fun e w' => Below w.heap.size w w' ∧ ∃ v er, e = .returned (.tuple #[.bool v, .int .i64 er]) ∧ ChkO p va vd Nx Ny X Y v er := by
  unfold PgD.val
  obtain ⟨v, hv⟩ := bool_of p.Ok
  obtain ⟨t, ht⟩ := bool_of (FrV 1 (fun _ => (va, vd)))
  obtain ⟨u1, hu1⟩ := bool_of (FrV Nx X)
  obtain ⟨u2, hu2⟩ := bool_of (FrV Ny Y)
  have HT : Hid (t = true ↔ Vld va vd) := ht.trans ⟨fun h => h 0 (by omega), fun h _ _ => h⟩
  obtain ⟨w1, hw1⟩ : ∃ W, W = w.alloc (Obj.cells #[Value.slice p.ca p.n p.cc, .slice p.ra p.m p.rc] 25) := ⟨_, rfl⟩
  obtain ⟨xb, hxb⟩ : ∃ x, x = w.heap.size := ⟨_, rfl⟩
  obtain ⟨w2, hw2⟩ : ∃ W, W = w1.alloc (Obj.cells #[.int .i64 va, .int .i64 vd, .slice xa Nx xc, .slice ya Ny yc] 38) := ⟨_, rfl⟩
  obtain ⟨kb, hkb⟩ : ∃ x, x = xb + 1 := ⟨_, rfl⟩
  have hkw : kb = w1.heap.size := by rw [hkb, hw1, hxb]; simp
  have hb1 : Below w.heap.size w w1 := by rw [hw1]; exact (Below.refl _ _).alloc (Nat.le_refl _) _
  have hb2 : Below w1.heap.size w1 w2 := by rw [hw2]; exact (Below.refl _ _).alloc (Nat.le_refl _) _
  have hB : Blk w1 xb (.slice p.ca p.n p.cc) (.slice p.ra p.m p.rc) := by rw [hw1, hxb]; exact Blk.new _ _ _ _
  have hA : ABk w2 kb (.int .i64 va) (.int .i64 vd) (.slice xa Nx xc) (.slice ya Ny yc) := by
    rw [hw2, hkw]
    exact ⟨by simp, by simp [go_sem], by simp [go_sem], by simp [go_sem], by simp [go_sem], fun o => by simp [go_sem]⟩
  have HV := Lib.hid hv
  have HU1 := Lib.hid hu1
  have HU2 := Lib.hid hu2
  have CV := Lib.hid (pValid_any p hs v hv w2 (hp.on (below_on hb1 hb2)))
  have CT := fun (W : World) => Lib.hid (pvld_any (some ⟨W.heap.size, 0, none⟩) 1 1 (fun _ => (va, vd)) (W.alloc (Obj.cells #[.int .i64 va, .int .i64 vd] 35)) (fun _ => ⟨_, 0, rfl, by simp, fun j hj => by rw [show 0 + j * 2 = 0 by omega]; exact ⟨by simp [go_sem], by simp [go_sem]⟩⟩) hbv (by omega) t ht)
  have CU1 := fun W (h : Below w.heap.size w W) => Lib.hid (pvld_any xa Nx xc X W (hx.on h) hbx (by omega) u1 hu1)
  have HCU1 := Lib.hid CU1
  have CU2 := fun W (h : Below w.heap.size w W) => Lib.hid (pvld_any ya Ny yc Y W (hy.on h) hby (by omega) u2 hu2)
  have HCU2 := Lib.hid CU2
  have HCT := Lib.hid CT
  have CF := fun W (h : Below w.heap.size w W) => Lib.hid (Feasible_any p hs xa Nx xc X W (hp.on h) (hx.on h) hbx hNx)
  have HCF := Lib.hid CF
  have CL := fun W (h : Below w.heap.size w W) => Lib.hid (Value_any p hs xa Nx xc X W (hp.on h) (hx.on h) hbx hNx)
  have HCL := Lib.hid CL
  have HP := Lib.hid hp
  have HY := Lib.hid hy
  have HB := Lib.hid (below_on hb1 hb2)
  have HXB := Lib.hid (hB.on hb2)
  have HKB := Lib.hid hA
  clear hb1 hb2 hB hA hv ht hu1 hu2 hp hx hy hbx hby hbv hs CU1 CU2 CT CF CL
  unfold PgD.val at CV HCF HCL
  go_enter Try.func16, Try.ntmps16
  go_upto_region 1 with fail
  rw [← hxb, ← hw1, ← hkb, ← hw2]
  clear hxb hw1 hw2 hkb hkw
  have q0 := HXB.out.2.1
  have q1 := HXB.out.2.2
  cases v
  · have hno : ¬ (p.Ok ∧ Vld va vd ∧ FrV Nx X ∧ FrV Ny Y) := fun h => by have := HV.out.2 h.1; cases this
    go_wp2_with fail
    (with_reducible refine ((CV.out).mono ?_))
    rintro e w3 ⟨rfl, hb3⟩
    go_wp2_with fail
    go_ret2
    exact ⟨below_on HB.out hb3, false, 1, rfl, .inl ⟨hno, rfl, rfl⟩⟩
  have hok : p.Ok := HV.out.1 rfl
  have hm2 := hok.m2
  have hn2 := hok.n2
  have hn1 := hok.n1
  go_wp2_with fail
  (with_reducible refine ((CV.out).mono ?_))
  rintro e w3 ⟨rfl, hb3⟩
  have HXB := Lib.hid (HXB.out.on hb3)
  have HKB := Lib.hid (HKB.out.on hb3)
  have HB := Lib.hid (below_on HB.out hb3)
  clear CV hb3 q0 q1
  have k0 := HKB.out.c0
  have k1 := HKB.out.c1
  have hb4 : Below w3.heap.size w3 (w3.alloc (Obj.cells #[.int .i64 va, .int .i64 vd] 35)) := (Below.refl _ _).alloc (Nat.le_refl _) _
  have H4 := Lib.hid hb4
  clear hb4
  cases t
  · have hno : ¬ (p.Ok ∧ Vld va vd ∧ FrV Nx X ∧ FrV Ny Y) := fun h => by have := HT.out.2 h.2.1; cases this
    go_wp2_with fail
    (with_reducible refine (((HCT.out w3).out).mono ?_))
    rintro e w4 ⟨rfl, hb3⟩
    have HB := Lib.hid (below_on HB.out (below_on H4.out hb3))
    clear hb3 k0 k1
    go_wp2_with fail
    go_ret2
    exact ⟨HB.out, false, 1, rfl, .inl ⟨hno, rfl, rfl⟩⟩
  have hvv : Vld va vd := HT.out.1 rfl
  go_wp2_with fail
  (with_reducible refine (((HCT.out w3).out).mono ?_))
  rintro e w4 ⟨rfl, hb3⟩
  have HXB := Lib.hid (HXB.out.on (below_on H4.out hb3))
  have HKB := Lib.hid (HKB.out.on (below_on H4.out hb3))
  have HB := Lib.hid (below_on HB.out (below_on H4.out hb3))
  clear hb3 k0 k1 H4 HCT
  have k2 := HKB.out.c2
  cases u1
  · have hno : ¬ (p.Ok ∧ Vld va vd ∧ FrV Nx X ∧ FrV Ny Y) := fun h => by have := HU1.out.2 h.2.2.1; cases this
    go_wp2_with fail
    (with_reducible refine (((HCU1.out _ HB.out).out).mono ?_))
    rintro e w5 ⟨rfl, hb3⟩
    have HB := Lib.hid (below_on HB.out hb3)
    clear hb3 k2
    go_wp2_with fail
    go_ret2
    exact ⟨HB.out, false, 1, rfl, .inl ⟨hno, rfl, rfl⟩⟩
  have hfx : FrV Nx X := HU1.out.1 rfl
  go_wp2_with fail
  (with_reducible refine (((HCU1.out _ HB.out).out).mono ?_))
  rintro e w5 ⟨rfl, hb3⟩
  have HXB := Lib.hid (HXB.out.on hb3)
  have HKB := Lib.hid (HKB.out.on hb3)
  have HB := Lib.hid (below_on HB.out hb3)
  clear hb3 k2 HCU1
  have k3 := HKB.out.c3
  cases u2
  · have hno : ¬ (p.Ok ∧ Vld va vd ∧ FrV Nx X ∧ FrV Ny Y) := fun h => by have := HU2.out.2 h.2.2.2; cases this
    go_wp2_with fail
    (with_reducible refine (((HCU2.out _ HB.out).out).mono ?_))
    rintro e w6 ⟨rfl, hb3⟩
    have HB := Lib.hid (below_on HB.out hb3)
    clear hb3 k3
    go_wp2_with fail
    go_ret2
    exact ⟨HB.out, false, 1, rfl, .inl ⟨hno, rfl, rfl⟩⟩
  have hfy : FrV Ny Y := HU2.out.1 rfl
  have HFV := Lib.hid (And.intro hvv (And.intro hfx hfy))
  clear hvv hfx hfy
  go_wp2_with fail
  (with_reducible refine (((HCU2.out _ HB.out).out).mono ?_))
  rintro e w6 ⟨rfl, hb3⟩
  have HXB := Lib.hid (HXB.out.on hb3)
  have HKB := Lib.hid (HKB.out.on hb3)
  have HB := Lib.hid (below_on HB.out hb3)
  clear hb3 k3 HCU2 HV HU1 HU2 HT
  have q0 := HXB.out.2.1
  have q1 := HXB.out.2.2
  have k2 := HKB.out.c2
  have k3 := HKB.out.c3
  by_cases hn : Nx = p.n
  case neg =>
    have hne1 : ((Nx : Int) != (p.n : Int)) = true := by simp; omega
    have hne2 : ¬ ((Nx : Int) = (p.n : Int)) := by omega
    go_wp2_with fail
    go_ret2
    exact ⟨HB.out, false, 3, rfl, .inr (.inl ⟨hok, HFV.out.1, HFV.out.2.1, HFV.out.2.2, fun h => hn h.1, rfl, rfl⟩)⟩
  subst hn
  by_cases hm : Ny = p.m
  case neg =>
    have hne1 : ((Ny : Int) != (p.m : Int)) = true := by simp; omega
    have hne2 : ¬ ((Ny : Int) = (p.m : Int)) := by omega
    go_wp2_with fail
    go_ret2
    exact ⟨HB.out, false, 3, rfl, .inr (.inl ⟨hok, HFV.out.1, HFV.out.2.1, HFV.out.2.2, fun h => hm h.2, rfl, rfl⟩)⟩
  subst hm
  go_wp2_with fail
  (with_reducible refine (((HCF.out _ HB.out).out).mono ?_))
  rintro e w7 ⟨hb3, fv, fe, rfl, hfo⟩
  have HFO : Hid (((∃ i, i < p.m ∧ comS (p.Z i) X p.n = (0, 0, 5)) ∧ fv = false ∧ fe = 5) ∨ ((∀ i, i < p.m → (comS (p.Z i) X p.n).2.2 = 0) ∧ (fv = true ↔ FeaR p X) ∧ fe = 0)) := by
    rcases hfo with h | h | h | h
    · exact absurd ⟨hok, HFV.out.2.1⟩ h.1
    · exact absurd rfl h.2.2.1
    · exact .inl h.2.2.2
    · exact .inr h.2.2.2
  have HXB := Lib.hid (HXB.out.on hb3)
  have HKB := Lib.hid (HKB.out.on hb3)
  have HB := Lib.hid (below_on HB.out hb3)
  clear hb3 HCF hfo q0 q1 k2 k3
  have q0 := HXB.out.2.1
  have q1 := HXB.out.2.2
  have k2 := HKB.out.c2
  go_wp2_with fail
  (with_reducible refine (((HCL.out _ HB.out).out).mono ?_))
  rintro e w8 ⟨hb3, r, rfl, hvo⟩
  have HVO : Hid (r = comS p.C X p.n) := by
    rcases hvo with h | h | h
    · exact absurd ⟨hok, HFV.out.2.1⟩ h.1
    · exact absurd rfl h.2.2.1
    · exact h.2.2.2
  obtain ⟨ra, rd, re⟩ := r
  have HXB := Lib.hid (HXB.out.on hb3)
  have HKB := Lib.hid (HKB.out.on hb3)
  have HB := Lib.hid (below_on HB.out hb3)
  clear hb3 HCL hvo q0 q1 k2
  simp only
  go_upto_region 7 with fail
  obtain ⟨w9, hw9⟩ : ∃ W, W = w8.alloc (Obj.cells #[.int .i64 ra, .int .i64 rd] 35) := ⟨_, rfl⟩
  obtain ⟨vb, hvb⟩ : ∃ x, x = w8.heap.size := ⟨_, rfl⟩
  rw [← hw9, ← hvb]
  have hb9 : Below w8.heap.size w8 w9 := by rw [hw9]; exact (Below.refl _ _).alloc (Nat.le_refl _) _
  have HVB : Hid (Blk w9 vb (.int .i64 ra) (.int .i64 rd)) := by rw [hw9, hvb]; exact Blk.new _ _ _ _
  have HXB := Lib.hid (HXB.out.on hb9)
  have HKB := Lib.hid (HKB.out.on hb9)
  have HB := Lib.hid (below_on HB.out hb9)
  clear hb9 hw9 hvb
  have HRE : Hid (re = 0 ∨ re = 5) := by
    have hvo := HVO.out
    rcases comS_vld (f := p.C) (fun j hj => by have := hok.c j hj; omega) HFV.out.2.1 p.n (Nat.le_refl _) with h | h
    · rw [h] at hvo; exact .inr (three hvo).2.2
    · rw [← hvo] at h; exact .inl h.1
  have HFE : Hid (fe = 0 ∨ fe = 5) := by
    rcases HFO.out with h | h
    · exact .inr h.2.2
    · exact .inl h.2.2
  have CW := Lib.hid (weighted_any p hok ya yc Y w9 (HP.out.on HB.out) (HY.out.on HB.out) HFV.out.2.2)
  unfold PgD.val at CW
  have q0 := HXB.out.2.1
  have q1 := HXB.out.2.2
  have k3 := HKB.out.c3
  go_wp2_with fail
  (with_reducible refine ((CW.out).mono ?_))
  rintro e wa ⟨hb3, h⟩
  have HXB := Lib.hid (HXB.out.on hb3)
  have HKB := Lib.hid (HKB.out.on hb3)
  have HVB := Lib.hid (HVB.out.on hb3)
  have HB := Lib.hid (below_on HB.out hb3)
  clear hb3 CW q0 q1 k3
  have CO := fun (c : Int) => Lib.hid (or_any wa.heap.size fe re c (wa.alloc (Obj.cells #[.int .i64 fe, .int .i64 re, .int .i64 c] 28)) (by simp [go_sem]) (by simp [go_sem]) (by simp [go_sem]))
  have ho : Below wa.heap.size wa (wa.alloc (Obj.cells #[.int .i64 fe, .int .i64 re, .int .i64 0] 28)) := (Below.refl _ _).alloc (Nat.le_refl _) _
  have ho5 : Below wa.heap.size wa (wa.alloc (Obj.cells #[.int .i64 fe, .int .i64 re, .int .i64 5] 28)) := (Below.refl _ _).alloc (Nat.le_refl _) _
  have HO := Lib.hid (And.intro ho ho5)
  clear ho ho5
  rcases h with ⟨ab, rfl, h1, h2, h3⟩ | ⟨rfl, h1⟩
  case inr =>
    have hno : ¬ ChkF p X Y := fun h => by
      obtain ⟨j, hj, hc⟩ := h1
      have := h.2.2 j hj
      rw [hc] at this; cases this
    have h5 : orE fe re 5 = 5 := by
      rcases orE_two HFE.out HRE.out (.inr rfl : (5 : Int) = 0 ∨ (5 : Int) = 5) with h | h
      · exact absurd h.2.2.2 (by decide)
      · exact h.1
    have C5 := CO 5
    rw [h5] at C5
    clear CO h1 h5
    go_wp2_with fail
    (with_reducible refine ((C5.out).mono ?_))
    rintro e wc ⟨rfl, hb3⟩
    have HB := Lib.hid (below_on HB.out (below_on HO.out.2 hb3))
    clear hb3
    go_wp2_with fail
    go_ret2
    exact ⟨HB.out, false, 5, rfl, .inr (.inr (.inl ⟨hok, HFV.out.1, HFV.out.2.1, HFV.out.2.2, rfl, rfl, hno, rfl, rfl⟩))⟩
  have HFT := Lib.hid h2
  have HE := Lib.hid h3
  clear h1 h2 h3
  have C0 := CO 0
  clear CO
  rcases orE_two HFE.out HRE.out (.inl rfl : (0 : Int) = 0 ∨ (0 : Int) = 5) with ⟨h5, hfe, hre, _⟩ | ⟨h5, hne⟩
  case inr =>
    have hno : ¬ ChkF p X Y := fun h => hne ⟨by
      rcases HFO.out with ⟨⟨i, hi, hc⟩, _⟩ | g
      · have := h.1 i hi
        rw [hc] at this; cases this
      · exact g.2.2, by have := h.2.1; rw [← HVO.out] at this; exact this, rfl⟩
    rw [h5] at C0
    clear h5 hne
    go_wp2_with fail
    (with_reducible refine ((C0.out).mono ?_))
    rintro e wc ⟨rfl, hb3⟩
    have HB := Lib.hid (below_on HB.out (below_on HO.out.1 hb3))
    clear hb3
    go_wp2_with fail
    go_ret2
    exact ⟨HB.out, false, 5, rfl, .inr (.inr (.inl ⟨hok, HFV.out.1, HFV.out.2.1, HFV.out.2.2, rfl, rfl, hno, rfl, rfl⟩))⟩
  rw [h5] at C0
  clear h5
  have HCF : Hid (ChkF p X Y) := ⟨by
    rcases HFO.out with g | g
    · exact absurd g.2.2 (by rw [hfe]; decide)
    · exact g.1, by rw [← HVO.out]; exact hre, HE.out⟩
  have HFF : Hid (fv = true ↔ FeaR p X) := by
    rcases HFO.out with g | g
    · exact absurd g.2.2 (by rw [hfe]; decide)
    · exact g.2.1
  have HVO : Hid (comS p.C X p.n = (ra, rd, 0)) := by have := HVO.out; rw [hre] at this; exact this.symm
  subst hfe
  subst hre
  clear HFO HFE HRE
  go_wp2_with fail
  (with_reducible refine ((C0.out).mono ?_))
  rintro e wc ⟨rfl, hb3⟩
  have hbo := below_on HO.out.1 hb3
  have HXB := Lib.hid (HXB.out.on hbo)
  have HKB := Lib.hid (HKB.out.on hbo)
  have HVB := Lib.hid (HVB.out.on hbo)
  have HFT := Lib.hid (HFT.out.on hbo)
  have HB := Lib.hid (below_on HB.out hbo)
  clear hb3 hbo C0 HO
  obtain ⟨v1, hv1⟩ := bool_of (RgS p Y)
  obtain ⟨v2, hv2⟩ := bool_of (∀ j, j < p.n → cmpI (outF (wF p) (fun _ => p.m) Y (p.n + 1) j).1 (outF (wF p) (fun _ => p.m) Y (p.n + 1) j).2 (p.C j) ≤ 0)
  have C1 := fun W (h : Below wc.heap.size wc W) => Lib.hid (rightSigns_any p hok ya yc Y W (HP.out.on (below_on HB.out h)) (HY.out.on (below_on HB.out h)) v1 hv1)
  have C2 := fun W (h : Below wc.heap.size wc W) => Lib.hid (allAtMost_any (some ⟨ab, 0, none⟩) (p.n + 1) (p.n + 1) (outF (wF p) (fun _ => p.m) Y (p.n + 1)) p.ca p.n p.cc p.C W (HFT.out.on h).ifr ((HP.out.on (below_on HB.out h)).cost) (by omega) (by omega) (fun j hj => by unfold outF; rw [if_pos hj]; exact wF_vld hok HFV.out.2.2 (HE.out j hj)) (fun j hj => by have := hok.c j hj; omega) v2 hv2)
  have e2 : v2 = true ↔ ∀ j, j < p.n → cmpI (comS (wF p j) Y p.m).1 (comS (wF p j) Y p.m).2.1 (p.C j) ≤ 0 := by
    rw [hv2]
    constructor
    · intro h j hj
      have := h j hj
      unfold outF at this
      rwa [if_pos (by omega)] at this
    · intro h j hj
      unfold outF
      rw [if_pos (by omega)]
      exact h j hj
  have HV1 := Lib.hid hv1
  have HV2 := Lib.hid e2
  unfold PgD.val at C1
  clear hv1 hv2 e2
  have x0 := HFT.out.c0 p.n (by omega)
  have x1 := HFT.out.c1 p.n (by omega)
  unfold outF at x0 x1
  rw [if_pos (by omega)] at x0 x1
  have HTT : Hid ((comS (wF p p.n) Y p.m).2.2 = 0) := HE.out p.n (by omega)
  obtain ⟨a, ha⟩ : ∃ x, (comS (wF p p.n) Y p.m).1 = x := ⟨_, rfl⟩
  obtain ⟨d, hd⟩ : ∃ x, (comS (wF p p.n) Y p.m).2.1 = x := ⟨_, rfl⟩
  simp only [ha, hd] at x0 x1
  have HAD : Hid (comS (wF p p.n) Y p.m = (a, d, 0)) := by show _ = _; rw [← ha, ← hd, ← HTT.out]
  clear ha hd HTT
  have LP0 : Hid (wc.cell? ⟨xb, 0, none⟩ = some (.slice p.ca p.n p.cc) ∧ xb < wc.heap.size) := ⟨HXB.out.2.1, HXB.out.1⟩
  have LP1 : Hid (wc.cell? ⟨xb, 1, none⟩ = some (.slice p.ra p.m p.rc) ∧ xb < wc.heap.size) := ⟨HXB.out.2.2, HXB.out.1⟩
  have LY : Hid (wc.cell? ⟨kb, 3, none⟩ = some (.slice ya p.m yc) ∧ kb < wc.heap.size) := ⟨HKB.out.c3, HKB.out.hb⟩
  have LV0 : Hid (wc.cell? ⟨kb, 0, none⟩ = some (.int .i64 va) ∧ kb < wc.heap.size) := ⟨HKB.out.c0, HKB.out.hb⟩
  have LV1 : Hid (wc.cell? ⟨kb, 1, none⟩ = some (.int .i64 vd) ∧ kb < wc.heap.size) := ⟨HKB.out.c1, HKB.out.hb⟩
  have LT0 : Hid (wc.cell? ⟨ab, p.n * 2, none⟩ = some (.int .i64 a) ∧ ab < wc.heap.size) := ⟨x0, HFT.out.hb⟩
  have LT1 : Hid (wc.cell? ⟨ab, p.n * 2 + 1, none⟩ = some (.int .i64 d) ∧ ab < wc.heap.size) := ⟨x1, HFT.out.hb⟩
  have l1 : (p.n : Int) < ((p.n + 1 : Nat) : Int) := by omega
  have l2 : (p.n : Int) < (p.n : Int) + 1 := by omega
  clear x0 x1 HFT
  go_upto_region 11 with fail
  cases v1
  case false =>
    have HNO : Hid (¬ ChkR p va vd X Y) := fun h => by have := HV1.out.2 h.sg; cases this
    refine wp_region_each (fun L A W => ∃ (v : Nat → Value), A = ⟨#[_, _, _, _, _, _, _, _, _, _, _, _, _, v 13, _, _, _, _, _, _, _, _, _, _, _, _, _, _, _, _, _, _, _, _, _, _, _, _, _, _, _, _, _, _, _, _, _, _, _, _, _, _, _, _, _, _, _, _, _, _, _, _, _, _, _, _, _, _, _, _, _, _, _, _, _, _, _, _, _, _, _, _, _, v 83, v 84, v 85, v 86, v 87, v 88, v 89, v 90, v 91, v 92, v 93, v 94, v 95, v 96, v 97, v 98, v 99, v 100, v 101, v 102, v 103, _, _, _, _, _, _, _, _, _, _], []⟩ ∧ CkAR xb kb ab p.n p.m p.cc p.rc yc p.ca p.ra ya a d va vd wc L v W) (by kernel_rfl) (by kernel_rfl) ⟨fun jz => if jz = 83 then undef else if jz = 84 then undef else if jz = 85 then undef else if jz = 86 then undef else if jz = 87 then undef else if jz = 88 then undef else if jz = 89 then undef else if jz = 90 then undef else if jz = 91 then undef else if jz = 92 then undef else if jz = 93 then undef else if jz = 94 then undef else if jz = 95 then undef else if jz = 96 then undef else if jz = 97 then undef else if jz = 98 then undef else if jz = 99 then undef else if jz = 100 then undef else if jz = 101 then undef else if jz = 102 then undef else if jz = 103 then undef else if jz = 13 then undef else undef, rfl, ⟨Below.drew (Below.refl _ _), Had.none, Had.none, Had.none, Had.none, Had.none, Had.none, Had.none, Had.none, Had.none, Had.none, Had.none, Had.none, Had.none, Had.none, Had.none, Had.none, Had.none, Had.none, Had.none, Had.none, Had.none, Had.none, Had.none, Had.none, Had.none, Had.none, Had.none, Had.none, Had.none, Had.none, Had.none, Had.none, Had.none, Had.none, Had.none, Had.none, Had.none, Had.none, Had.none, Had.none, Had.none, Had.none⟩⟩ (rs := [0, 1, 2, 3, 4, 5, 6, 7, 8, 9, 10, 11, 12, 13, 14, 15, 16, 17, 18, 19, 20, 21]) (by kernel_rfl) ?_ ?_
    · refine EachOf.cons [] rfl (by kernel_rfl) ?_ ?_
      · rintro L A W ⟨v, rfl, hR⟩ hi hw K hK
        have q0 := (hR.st.cell (p := ⟨xb, 0, none⟩) LP0.out.2).trans LP0.out.1
        have q1 := (hR.st.cell (p := ⟨xb, 1, none⟩) LP1.out.2).trans LP1.out.1
        go_simp
        refine hK.out _ _ ?_
        exact ⟨(fun jz => if jz = 83 then .agg #[.slice p.ca p.n p.cc, .slice p.ra p.m p.rc] else v jz), rfl, ⟨hR.st, (fun _ => rfl), hR.f1.keep rfl, hR.f2.keep rfl, hR.f3.keep rfl, hR.f4.keep rfl, hR.f5.keep rfl, hR.f6.keep rfl, hR.f7.keep rfl, hR.f8.keep rfl, hR.f9.keep rfl, hR.f10.keep rfl, hR.f11.keep rfl, hR.f12.keep rfl, hR.f13.keep rfl, hR.f14.keep rfl, hR.f15.keep rfl, hR.f16.keep rfl, hR.f17.keep rfl, hR.f18.keep rfl, hR.f19.keep rfl, hR.f20.keep rfl, hR.f21.keep rfl, hR.w2.keepM rfl (fun h j hj => upd_on (h j hj)), hR.w3.keepM rfl (fun h j hj => upd_on (h j hj)), hR.w4.keepM rfl (fun h j hj => upd_on (h j hj)), hR.w5.keepM rfl (fun h j hj => upd_on (h j hj)), hR.w6.keepM rfl (fun h j hj => upd_on (h j hj)), hR.w7.keepM rfl (fun h j hj => upd_on (h j hj)), hR.w8.keepM rfl (fun h j hj => upd_on (h j hj)), hR.w9.keepM rfl (fun h j hj => upd_on (h j hj)), hR.w10.keepM rfl (fun h j hj => upd_on (h j hj)), hR.w11.keepM rfl (fun h j hj => upd_on (h j hj)), hR.w12.keepM rfl (fun h j hj => upd_on (h j hj)), hR.w13.keepM rfl (fun h j hj => upd_on (h j hj)), hR.w14.keepM rfl (fun h j hj => upd_on (h j hj)), hR.w15.keepM rfl (fun h j hj => upd_on (h j hj)), hR.w16.keepM rfl (fun h j hj => upd_on (h j hj)), hR.w17.keepM rfl (fun h j hj => upd_on (h j hj)), hR.w18.keepM rfl (fun h j hj => upd_on (h j hj)), hR.w19.keepM rfl (fun h j hj => upd_on (h j hj)), hR.w20.keepM rfl (fun h j hj => upd_on (h j hj)), hR.w21.keepM rfl (fun h j hj => upd_on (h j hj))⟩⟩
      refine EachOf.cons [] rfl (by kernel_rfl) ?_ ?_
      · rintro L A W ⟨v, rfl, hR⟩ hi hw K hK
        go_simp
        refine hK.out _ _ ?_
        exact ⟨(fun jz => if jz = 84 then .pointer (some ⟨kb, 3, none⟩) else v jz), rfl, ⟨hR.st, hR.f0.keep rfl, (fun _ => rfl), hR.f2.keep rfl, hR.f3.keep rfl, hR.f4.keep rfl, hR.f5.keep rfl, hR.f6.keep rfl, hR.f7.keep rfl, hR.f8.keep rfl, hR.f9.keep rfl, hR.f10.keep rfl, hR.f11.keep rfl, hR.f12.keep rfl, hR.f13.keep rfl, hR.f14.keep rfl, hR.f15.keep rfl, hR.f16.keep rfl, hR.f17.keep rfl, hR.f18.keep rfl, hR.f19.keep rfl, hR.f20.keep rfl, hR.f21.keep rfl, hR.w2.keepM rfl (fun h j hj => upd_on (h j hj)), hR.w3.keepM rfl (fun h j hj => upd_on (h j hj)), hR.w4.keepM rfl (fun h j hj => upd_on (h j hj)), hR.w5.keepM rfl (fun h j hj => upd_on (h j hj)), hR.w6.keepM rfl (fun h j hj => upd_on (h j hj)), hR.w7.keepM rfl (fun h j hj => upd_on (h j hj)), hR.w8.keepM rfl (fun h j hj => upd_on (h j hj)), hR.w9.keepM rfl (fun h j hj => upd_on (h j hj)), hR.w10.keepM rfl (fun h j hj => upd_on (h j hj)), hR.w11.keepM rfl (fun h j hj => upd_on (h j hj)), hR.w12.keepM rfl (fun h j hj => upd_on (h j hj)), hR.w13.keepM rfl (fun h j hj => upd_on (h j hj)), hR.w14.keepM rfl (fun h j hj => upd_on (h j hj)), hR.w15.keepM rfl (fun h j hj => upd_on (h j hj)), hR.w16.keepM rfl (fun h j hj => upd_on (h j hj)), hR.w17.keepM rfl (fun h j hj => upd_on (h j hj)), hR.w18.keepM rfl (fun h j hj => upd_on (h j hj)), hR.w19.keepM rfl (fun h j hj => upd_on (h j hj)), hR.w20.keepM rfl (fun h j hj => upd_on (h j hj)), hR.w21.keepM rfl (fun h j hj => upd_on (h j hj))⟩⟩
      refine EachOf.cons [1] rfl (by kernel_rfl) ?_ ?_
      · rintro L A W ⟨v, rfl, hR⟩ hi hw K hK
        have e1 := hR.f1 (hw 1 (by simp))
        simp only [e1]
        clear e1
        have q0 := (hR.st.cell (p := ⟨kb, 3, none⟩) LY.out.2).trans LY.out.1
        go_simp
        refine hK.out _ _ ?_
        exact ⟨(fun jz => if jz = 84 then .pointer (some ⟨kb, 3, none⟩) else if jz = 85 then .slice ya p.m yc else v jz), rfl, ⟨hR.st, hR.f0.keep rfl, (fun _ => rfl), (fun _ => rfl), hR.f3.keep rfl, hR.f4.keep rfl, hR.f5.keep rfl, hR.f6.keep rfl, hR.f7.keep rfl, hR.f8.keep rfl, hR.f9.keep rfl, hR.f10.keep rfl, hR.f11.keep rfl, hR.f12.keep rfl, hR.f13.keep rfl, hR.f14.keep rfl, hR.f15.keep rfl, hR.f16.keep rfl, hR.f17.keep rfl, hR.f18.keep rfl, hR.f19.keep rfl, hR.f20.keep rfl, hR.f21.keep rfl, (fun _ j hj => upd_on (hw j hj)), hR.w3.keepM rfl (fun h j hj => upd_on (h j hj)), hR.w4.keepM rfl (fun h j hj => upd_on (h j hj)), hR.w5.keepM rfl (fun h j hj => upd_on (h j hj)), hR.w6.keepM rfl (fun h j hj => upd_on (h j hj)), hR.w7.keepM rfl (fun h j hj => upd_on (h j hj)), hR.w8.keepM rfl (fun h j hj => upd_on (h j hj)), hR.w9.keepM rfl (fun h j hj => upd_on (h j hj)), hR.w10.keepM rfl (fun h j hj => upd_on (h j hj)), hR.w11.keepM rfl (fun h j hj => upd_on (h j hj)), hR.w12.keepM rfl (fun h j hj => upd_on (h j hj)), hR.w13.keepM rfl (fun h j hj => upd_on (h j hj)), hR.w14.keepM rfl (fun h j hj => upd_on (h j hj)), hR.w15.keepM rfl (fun h j hj => upd_on (h j hj)), hR.w16.keepM rfl (fun h j hj => upd_on (h j hj)), hR.w17.keepM rfl (fun h j hj => upd_on (h j hj)), hR.w18.keepM rfl (fun h j hj => upd_on (h j hj)), hR.w19.keepM rfl (fun h j hj => upd_on (h j hj)), hR.w20.keepM rfl (fun h j hj => upd_on (h j hj)), hR.w21.keepM rfl (fun h j hj => upd_on (h j hj))⟩⟩
      refine EachOf.cons [0, 2] rfl (by kernel_rfl) ?_ ?_
      · rintro L A W ⟨v, rfl, hR⟩ hi hw K hK
        have e0 := hR.f0 (hw 0 (by simp))
        have e2 := hR.f2 (hw 2 (by simp))
        simp only [e0, e2]
        clear e0 e2
        go_simp
        go_at_call 47
        (with_reducible refine (((C1 W (hR.st))).out.mono ?_))
        rintro e w2 ⟨rfl, hb⟩
        go_simp
        refine hK.out _ _ ?_
        exact ⟨(fun jz => if jz = 83 then .agg #[.slice p.ca p.n p.cc, .slice p.ra p.m p.rc] else if jz = 85 then .slice ya p.m yc else if jz = 86 then .bool false else v jz), rfl, ⟨below_on hR.st hb, (fun _ => rfl), hR.f1.keep rfl, (fun _ => rfl), (fun _ => rfl), hR.f4.keep rfl, hR.f5.keep rfl, hR.f6.keep rfl, hR.f7.keep rfl, hR.f8.keep rfl, hR.f9.keep rfl, hR.f10.keep rfl, hR.f11.keep rfl, hR.f12.keep rfl, hR.f13.keep rfl, hR.f14.keep rfl, hR.f15.keep rfl, hR.f16.keep rfl, hR.f17.keep rfl, hR.f18.keep rfl, hR.f19.keep rfl, hR.f20.keep rfl, hR.f21.keep rfl, hR.w2.keepM rfl (fun h j hj => upd_on (h j hj)), (fun _ j hj => upd_on (hw j hj)), hR.w4.keepM rfl (fun h j hj => upd_on (h j hj)), hR.w5.keepM rfl (fun h j hj => upd_on (h j hj)), hR.w6.keepM rfl (fun h j hj => upd_on (h j hj)), hR.w7.keepM rfl (fun h j hj => upd_on (h j hj)), hR.w8.keepM rfl (fun h j hj => upd_on (h j hj)), hR.w9.keepM rfl (fun h j hj => upd_on (h j hj)), hR.w10.keepM rfl (fun h j hj => upd_on (h j hj)), hR.w11.keepM rfl (fun h j hj => upd_on (h j hj)), hR.w12.keepM rfl (fun h j hj => upd_on (h j hj)), hR.w13.keepM rfl (fun h j hj => upd_on (h j hj)), hR.w14.keepM rfl (fun h j hj => upd_on (h j hj)), hR.w15.keepM rfl (fun h j hj => upd_on (h j hj)), hR.w16.keepM rfl (fun h j hj => upd_on (h j hj)), hR.w17.keepM rfl (fun h j hj => upd_on (h j hj)), hR.w18.keepM rfl (fun h j hj => upd_on (h j hj)), hR.w19.keepM rfl (fun h j hj => upd_on (h j hj)), hR.w20.keepM rfl (fun h j hj => upd_on (h j hj)), hR.w21.keepM rfl (fun h j hj => upd_on (h j hj))⟩⟩
      refine EachOf.cons [3] rfl (by kernel_rfl) ?_ ?_
      · rintro L A W ⟨v, rfl, hR⟩ hi hw K hK
        have e3 := hR.f3 (hw 3 (by simp))
        simp only [e3]
        clear e3
        go_simp
        refine hK.out _ _ ?_
        exact ⟨(fun jz => if jz = 86 then .bool false else if jz = 87 then .bool false else v jz), rfl, ⟨hR.st, hR.f0.keep rfl, hR.f1.keep rfl, hR.f2.keep rfl, (fun _ => rfl), (fun _ => rfl), hR.f5.keep rfl, hR.f6.keep rfl, hR.f7.keep rfl, hR.f8.keep rfl, hR.f9.keep rfl, hR.f10.keep rfl, hR.f11.keep rfl, hR.f12.keep rfl, hR.f13.keep rfl, hR.f14.keep rfl, hR.f15.keep rfl, hR.f16.keep rfl, hR.f17.keep rfl, hR.f18.keep rfl, hR.f19.keep rfl, hR.f20.keep rfl, hR.f21.keep rfl, hR.w2.keepM rfl (fun h j hj => upd_on (h j hj)), hR.w3.keepM rfl (fun h j hj => upd_on (h j hj)), (fun _ j hj => upd_on (hw j hj)), hR.w5.keepM rfl (fun h j hj => upd_on (h j hj)), hR.w6.keepM rfl (fun h j hj => upd_on (h j hj)), hR.w7.keepM rfl (fun h j hj => upd_on (h j hj)), hR.w8.keepM rfl (fun h j hj => upd_on (h j hj)), hR.w9.keepM rfl (fun h j hj => upd_on (h j hj)), hR.w10.keepM rfl (fun h j hj => upd_on (h j hj)), hR.w11.keepM rfl (fun h j hj => upd_on (h j hj)), hR.w12.keepM rfl (fun h j hj => upd_on (h j hj)), hR.w13.keepM rfl (fun h j hj => upd_on (h j hj)), hR.w14.keepM rfl (fun h j hj => upd_on (h j hj)), hR.w15.keepM rfl (fun h j hj => upd_on (h j hj)), hR.w16.keepM rfl (fun h j hj => upd_on (h j hj)), hR.w17.keepM rfl (fun h j hj => upd_on (h j hj)), hR.w18.keepM rfl (fun h j hj => upd_on (h j hj)), hR.w19.keepM rfl (fun h j hj => upd_on (h j hj)), hR.w20.keepM rfl (fun h j hj => upd_on (h j hj)), hR.w21.keepM rfl (fun h j hj => upd_on (h j hj))⟩⟩
      refine EachOf.cons [4] rfl (by kernel_rfl) ?_ ?_
      · rintro L A W ⟨v, rfl, hR⟩ hi hw K hK
        have e4 := hR.f4 (hw 4 (by simp))
        simp only [e4]
        clear e4
        go_simp
        refine hK.out _ _ ?_
        exact ⟨(fun jz => if jz = 87 then .bool false else if jz = 88 then undef else v jz), rfl, ⟨hR.st, hR.f0.keep rfl, hR.f1.keep rfl, hR.f2.keep rfl, hR.f3.keep rfl, (fun _ => rfl), (fun _ => rfl), hR.f6.keep rfl, hR.f7.keep rfl, hR.f8.keep rfl, hR.f9.keep rfl, hR.f10.keep rfl, hR.f11.keep rfl, hR.f12.keep rfl, hR.f13.keep rfl, hR.f14.keep rfl, hR.f15.keep rfl, hR.f16.keep rfl, hR.f17.keep rfl, hR.f18.keep rfl, hR.f19.keep rfl, hR.f20.keep rfl, hR.f21.keep rfl, hR.w2.keepM rfl (fun h j hj => upd_on (h j hj)), hR.w3.keepM rfl (fun h j hj => upd_on (h j hj)), hR.w4.keepM rfl (fun h j hj => upd_on (h j hj)), (fun _ j hj => upd_on (hw j hj)), hR.w6.keepM rfl (fun h j hj => upd_on (h j hj)), hR.w7.keepM rfl (fun h j hj => upd_on (h j hj)), hR.w8.keepM rfl (fun h j hj => upd_on (h j hj)), hR.w9.keepM rfl (fun h j hj => upd_on (h j hj)), hR.w10.keepM rfl (fun h j hj => upd_on (h j hj)), hR.w11.keepM rfl (fun h j hj => upd_on (h j hj)), hR.w12.keepM rfl (fun h j hj => upd_on (h j hj)), hR.w13.keepM rfl (fun h j hj => upd_on (h j hj)), hR.w14.keepM rfl (fun h j hj => upd_on (h j hj)), hR.w15.keepM rfl (fun h j hj => upd_on (h j hj)), hR.w16.keepM rfl (fun h j hj => upd_on (h j hj)), hR.w17.keepM rfl (fun h j hj => upd_on (h j hj)), hR.w18.keepM rfl (fun h j hj => upd_on (h j hj)), hR.w19.keepM rfl (fun h j hj => upd_on (h j hj)), hR.w20.keepM rfl (fun h j hj => upd_on (h j hj)), hR.w21.keepM rfl (fun h j hj => upd_on (h j hj))⟩⟩
      refine EachOf.cons [4] rfl (by kernel_rfl) ?_ ?_
      · rintro L A W ⟨v, rfl, hR⟩ hi hw K hK
        have e4 := hR.f4 (hw 4 (by simp))
        simp only [e4]
        clear e4
        go_simp
        refine hK.out _ _ ?_
        exact ⟨(fun jz => if jz = 87 then .bool false else if jz = 89 then undef else v jz), rfl, ⟨hR.st, hR.f0.keep rfl, hR.f1.keep rfl, hR.f2.keep rfl, hR.f3.keep rfl, (fun _ => rfl), hR.f5.keep rfl, (fun _ => rfl), hR.f7.keep rfl, hR.f8.keep rfl, hR.f9.keep rfl, hR.f10.keep rfl, hR.f11.keep rfl, hR.f12.keep rfl, hR.f13.keep rfl, hR.f14.keep rfl, hR.f15.keep rfl, hR.f16.keep rfl, hR.f17.keep rfl, hR.f18.keep rfl, hR.f19.keep rfl, hR.f20.keep rfl, hR.f21.keep rfl, hR.w2.keepM rfl (fun h j hj => upd_on (h j hj)), hR.w3.keepM rfl (fun h j hj => upd_on (h j hj)), hR.w4.keepM rfl (fun h j hj => upd_on (h j hj)), hR.w5.keepM rfl (fun h j hj => upd_on (h j hj)), (fun _ j hj => upd_on (hw j hj)), hR.w7.keepM rfl (fun h j hj => upd_on (h j hj)), hR.w8.keepM rfl (fun h j hj => upd_on (h j hj)), hR.w9.keepM rfl (fun h j hj => upd_on (h j hj)), hR.w10.keepM rfl (fun h j hj => upd_on (h j hj)), hR.w11.keepM rfl (fun h j hj => upd_on (h j hj)), hR.w12.keepM rfl (fun h j hj => upd_on (h j hj)), hR.w13.keepM rfl (fun h j hj => upd_on (h j hj)), hR.w14.keepM rfl (fun h j hj => upd_on (h j hj)), hR.w15.keepM rfl (fun h j hj => upd_on (h j hj)), hR.w16.keepM rfl (fun h j hj => upd_on (h j hj)), hR.w17.keepM rfl (fun h j hj => upd_on (h j hj)), hR.w18.keepM rfl (fun h j hj => upd_on (h j hj)), hR.w19.keepM rfl (fun h j hj => upd_on (h j hj)), hR.w20.keepM rfl (fun h j hj => upd_on (h j hj)), hR.w21.keepM rfl (fun h j hj => upd_on (h j hj))⟩⟩
      refine EachOf.cons [4, 6] rfl (by kernel_rfl) ?_ ?_
      · rintro L A W ⟨v, rfl, hR⟩ hi hw K hK
        have e6 := hR.f6 (hw 6 (by simp))
        have e4 := hR.f4 (hw 4 (by simp))
        simp only [e6, e4]
        clear e6 e4
        go_simp
        refine hK.out _ _ ?_
        exact ⟨(fun jz => if jz = 89 then undef else if jz = 87 then .bool false else if jz = 90 then undef else v jz), rfl, ⟨hR.st, hR.f0.keep rfl, hR.f1.keep rfl, hR.f2.keep rfl, hR.f3.keep rfl, (fun _ => rfl), hR.f5.keep rfl, (fun _ => rfl), (fun _ => rfl), hR.f8.keep rfl, hR.f9.keep rfl, hR.f10.keep rfl, hR.f11.keep rfl, hR.f12.keep rfl, hR.f13.keep rfl, hR.f14.keep rfl, hR.f15.keep rfl, hR.f16.keep rfl, hR.f17.keep rfl, hR.f18.keep rfl, hR.f19.keep rfl, hR.f20.keep rfl, hR.f21.keep rfl, hR.w2.keepM rfl (fun h j hj => upd_on (h j hj)), hR.w3.keepM rfl (fun h j hj => upd_on (h j hj)), hR.w4.keepM rfl (fun h j hj => upd_on (h j hj)), hR.w5.keepM rfl (fun h j hj => upd_on (h j hj)), hR.w6.keepM rfl (fun h j hj => upd_on (h j hj)), (fun _ j hj => upd_on (hw j hj)), hR.w8.keepM rfl (fun h j hj => upd_on (h j hj)), hR.w9.keepM rfl (fun h j hj => upd_on (h j hj)), hR.w10.keepM rfl (fun h j hj => upd_on (h j hj)), hR.w11.keepM rfl (fun h j hj => upd_on (h j hj)), hR.w12.keepM rfl (fun h j hj => upd_on (h j hj)), hR.w13.keepM rfl (fun h j hj => upd_on (h j hj)), hR.w14.keepM rfl (fun h j hj => upd_on (h j hj)), hR.w15.keepM rfl (fun h j hj => upd_on (h j hj)), hR.w16.keepM rfl (fun h j hj => upd_on (h j hj)), hR.w17.keepM rfl (fun h j hj => upd_on (h j hj)), hR.w18.keepM rfl (fun h j hj => upd_on (h j hj)), hR.w19.keepM rfl (fun h j hj => upd_on (h j hj)), hR.w20.keepM rfl (fun h j hj => upd_on (h j hj)), hR.w21.keepM rfl (fun h j hj => upd_on (h j hj))⟩⟩
      refine EachOf.cons [4, 5, 7] rfl (by kernel_rfl) ?_ ?_
      · rintro L A W ⟨v, rfl, hR⟩ hi hw K hK
        have e5 := hR.f5 (hw 5 (by simp))
        have e7 := hR.f7 (hw 7 (by simp))
        have e4 := hR.f4 (hw 4 (by simp))
        simp only [e5, e7, e4]
        clear e5 e7 e4
        go_simp
        refine hK.out _ _ ?_
        exact ⟨(fun jz => if jz = 88 then undef else if jz = 90 then undef else if jz = 87 then .bool false else if jz = 91 then undef else v jz), rfl, ⟨hR.st, hR.f0.keep rfl, hR.f1.keep rfl, hR.f2.keep rfl, hR.f3.keep rfl, (fun _ => rfl), (fun _ => rfl), hR.f6.keep rfl, (fun _ => rfl), (fun _ => rfl), hR.f9.keep rfl, hR.f10.keep rfl, hR.f11.keep rfl, hR.f12.keep rfl, hR.f13.keep rfl, hR.f14.keep rfl, hR.f15.keep rfl, hR.f16.keep rfl, hR.f17.keep rfl, hR.f18.keep rfl, hR.f19.keep rfl, hR.f20.keep rfl, hR.f21.keep rfl, hR.w2.keepM rfl (fun h j hj => upd_on (h j hj)), hR.w3.keepM rfl (fun h j hj => upd_on (h j hj)), hR.w4.keepM rfl (fun h j hj => upd_on (h j hj)), hR.w5.keepM rfl (fun h j hj => upd_on (h j hj)), hR.w6.keepM rfl (fun h j hj => upd_on (h j hj)), hR.w7.keepM rfl (fun h j hj => upd_on (h j hj)), (fun _ j hj => upd_on (hw j hj)), hR.w9.keepM rfl (fun h j hj => upd_on (h j hj)), hR.w10.keepM rfl (fun h j hj => upd_on (h j hj)), hR.w11.keepM rfl (fun h j hj => upd_on (h j hj)), hR.w12.keepM rfl (fun h j hj => upd_on (h j hj)), hR.w13.keepM rfl (fun h j hj => upd_on (h j hj)), hR.w14.keepM rfl (fun h j hj => upd_on (h j hj)), hR.w15.keepM rfl (fun h j hj => upd_on (h j hj)), hR.w16.keepM rfl (fun h j hj => upd_on (h j hj)), hR.w17.keepM rfl (fun h j hj => upd_on (h j hj)), hR.w18.keepM rfl (fun h j hj => upd_on (h j hj)), hR.w19.keepM rfl (fun h j hj => upd_on (h j hj)), hR.w20.keepM rfl (fun h j hj => upd_on (h j hj)), hR.w21.keepM rfl (fun h j hj => upd_on (h j hj))⟩⟩
      refine EachOf.cons [4, 8] rfl (by kernel_rfl) ?_ ?_
      · rintro L A W ⟨v, rfl, hR⟩ hi hw K hK
        have e4 := hR.f4 (hw 4 (by simp))
        have e8 := hR.f8 (hw 8 (by simp))
        simp only [e4, e8]
        clear e4 e8
        go_simp
        refine hK.out _ _ ?_
        exact ⟨(fun jz => if jz = 87 then .bool false else if jz = 91 then undef else if jz = 92 then .bool false else v jz), rfl, ⟨hR.st, hR.f0.keep rfl, hR.f1.keep rfl, hR.f2.keep rfl, hR.f3.keep rfl, (fun _ => rfl), hR.f5.keep rfl, hR.f6.keep rfl, hR.f7.keep rfl, (fun _ => rfl), (fun _ => rfl), hR.f10.keep rfl, hR.f11.keep rfl, hR.f12.keep rfl, hR.f13.keep rfl, hR.f14.keep rfl, hR.f15.keep rfl, hR.f16.keep rfl, hR.f17.keep rfl, hR.f18.keep rfl, hR.f19.keep rfl, hR.f20.keep rfl, hR.f21.keep rfl, hR.w2.keepM rfl (fun h j hj => upd_on (h j hj)), hR.w3.keepM rfl (fun h j hj => upd_on (h j hj)), hR.w4.keepM rfl (fun h j hj => upd_on (h j hj)), hR.w5.keepM rfl (fun h j hj => upd_on (h j hj)), hR.w6.keepM rfl (fun h j hj => upd_on (h j hj)), hR.w7.keepM rfl (fun h j hj => upd_on (h j hj)), hR.w8.keepM rfl (fun h j hj => upd_on (h j hj)), (fun _ j hj => upd_on (hw j hj)), hR.w10.keepM rfl (fun h j hj => upd_on (h j hj)), hR.w11.keepM rfl (fun h j hj => upd_on (h j hj)), hR.w12.keepM rfl (fun h j hj => upd_on (h j hj)), hR.w13.keepM rfl (fun h j hj => upd_on (h j hj)), hR.w14.keepM rfl (fun h j hj => upd_on (h j hj)), hR.w15.keepM rfl (fun h j hj => upd_on (h j hj)), hR.w16.keepM rfl (fun h j hj => upd_on (h j hj)), hR.w17.keepM rfl (fun h j hj => upd_on (h j hj)), hR.w18.keepM rfl (fun h j hj => upd_on (h j hj)), hR.w19.keepM rfl (fun h j hj => upd_on (h j hj)), hR.w20.keepM rfl (fun h j hj => upd_on (h j hj)), hR.w21.keepM rfl (fun h j hj => upd_on (h j hj))⟩⟩
      refine EachOf.cons [9] rfl (by kernel_rfl) ?_ ?_
      · rintro L A W ⟨v, rfl, hR⟩ hi hw K hK
        have e9 := hR.f9 (hw 9 (by simp))
        simp only [e9]
        clear e9
        go_simp
        refine hK.out _ _ ?_
        exact ⟨(fun jz => if jz = 92 then .bool false else if jz = 93 then .bool false else v jz), rfl, ⟨hR.st, hR.f0.keep rfl, hR.f1.keep rfl, hR.f2.keep rfl, hR.f3.keep rfl, hR.f4.keep rfl, hR.f5.keep rfl, hR.f6.keep rfl, hR.f7.keep rfl, hR.f8.keep rfl, (fun _ => rfl), (fun _ => rfl), hR.f11.keep rfl, hR.f12.keep rfl, hR.f13.keep rfl, hR.f14.keep rfl, hR.f15.keep rfl, hR.f16.keep rfl, hR.f17.keep rfl, hR.f18.keep rfl, hR.f19.keep rfl, hR.f20.keep rfl, hR.f21.keep rfl, hR.w2.keepM rfl (fun h j hj => upd_on (h j hj)), hR.w3.keepM rfl (fun h j hj => upd_on (h j hj)), hR.w4.keepM rfl (fun h j hj => upd_on (h j hj)), hR.w5.keepM rfl (fun h j hj => upd_on (h j hj)), hR.w6.keepM rfl (fun h j hj => upd_on (h j hj)), hR.w7.keepM rfl (fun h j hj => upd_on (h j hj)), hR.w8.keepM rfl (fun h j hj => upd_on (h j hj)), hR.w9.keepM rfl (fun h j hj => upd_on (h j hj)), (fun _ j hj => upd_on (hw j hj)), hR.w11.keepM rfl (fun h j hj => upd_on (h j hj)), hR.w12.keepM rfl (fun h j hj => upd_on (h j hj)), hR.w13.keepM rfl (fun h j hj => upd_on (h j hj)), hR.w14.keepM rfl (fun h j hj => upd_on (h j hj)), hR.w15.keepM rfl (fun h j hj => upd_on (h j hj)), hR.w16.keepM rfl (fun h j hj => upd_on (h j hj)), hR.w17.keepM rfl (fun h j hj => upd_on (h j hj)), hR.w18.keepM rfl (fun h j hj => upd_on (h j hj)), hR.w19.keepM rfl (fun h j hj => upd_on (h j hj)), hR.w20.keepM rfl (fun h j hj => upd_on (h j hj)), hR.w21.keepM rfl (fun h j hj => upd_on (h j hj))⟩⟩
      refine EachOf.cons [10] rfl (by kernel_rfl) ?_ ?_
      · rintro L A W ⟨v, rfl, hR⟩ hi hw K hK
        have e10 := hR.f10 (hw 10 (by simp))
        simp only [e10]
        clear e10
        go_simp
        refine hK.out _ _ ?_
        exact ⟨(fun jz => if jz = 93 then .bool false else if jz = 94 then undef else v jz), rfl, ⟨hR.st, hR.f0.keep rfl, hR.f1.keep rfl, hR.f2.keep rfl, hR.f3.keep rfl, hR.f4.keep rfl, hR.f5.keep rfl, hR.f6.keep rfl, hR.f7.keep rfl, hR.f8.keep rfl, hR.f9.keep rfl, (fun _ => rfl), (fun _ => rfl), hR.f12.keep rfl, hR.f13.keep rfl, hR.f14.keep rfl, hR.f15.keep rfl, hR.f16.keep rfl, hR.f17.keep rfl, hR.f18.keep rfl, hR.f19.keep rfl, hR.f20.keep rfl, hR.f21.keep rfl, hR.w2.keepM rfl (fun h j hj => upd_on (h j hj)), hR.w3.keepM rfl (fun h j hj => upd_on (h j hj)), hR.w4.keepM rfl (fun h j hj => upd_on (h j hj)), hR.w5.keepM rfl (fun h j hj => upd_on (h j hj)), hR.w6.keepM rfl (fun h j hj => upd_on (h j hj)), hR.w7.keepM rfl (fun h j hj => upd_on (h j hj)), hR.w8.keepM rfl (fun h j hj => upd_on (h j hj)), hR.w9.keepM rfl (fun h j hj => upd_on (h j hj)), hR.w10.keepM rfl (fun h j hj => upd_on (h j hj)), (fun _ j hj => upd_on (hw j hj)), hR.w12.keepM rfl (fun h j hj => upd_on (h j hj)), hR.w13.keepM rfl (fun h j hj => upd_on (h j hj)), hR.w14.keepM rfl (fun h j hj => upd_on (h j hj)), hR.w15.keepM rfl (fun h j hj => upd_on (h j hj)), hR.w16.keepM rfl (fun h j hj => upd_on (h j hj)), hR.w17.keepM rfl (fun h j hj => upd_on (h j hj)), hR.w18.keepM rfl (fun h j hj => upd_on (h j hj)), hR.w19.keepM rfl (fun h j hj => upd_on (h j hj)), hR.w20.keepM rfl (fun h j hj => upd_on (h j hj)), hR.w21.keepM rfl (fun h j hj => upd_on (h j hj))⟩⟩
      refine EachOf.cons [10] rfl (by kernel_rfl) ?_ ?_
      · rintro L A W ⟨v, rfl, hR⟩ hi hw K hK
        have e10 := hR.f10 (hw 10 (by simp))
        simp only [e10]
        clear e10
        go_simp
        refine hK.out _ _ ?_
        exact ⟨(fun jz => if jz = 93 then .bool false else if jz = 95 then undef else v jz), rfl, ⟨hR.st, hR.f0.keep rfl, hR.f1.keep rfl, hR.f2.keep rfl, hR.f3.keep rfl, hR.f4.keep rfl, hR.f5.keep rfl, hR.f6.keep rfl, hR.f7.keep rfl, hR.f8.keep rfl, hR.f9.keep rfl, (fun _ => rfl), hR.f11.keep rfl, (fun _ => rfl), hR.f13.keep rfl, hR.f14.keep rfl, hR.f15.keep rfl, hR.f16.keep rfl, hR.f17.keep rfl, hR.f18.keep rfl, hR.f19.keep rfl, hR.f20.keep rfl, hR.f21.keep rfl, hR.w2.keepM rfl (fun h j hj => upd_on (h j hj)), hR.w3.keepM rfl (fun h j hj => upd_on (h j hj)), hR.w4.keepM rfl (fun h j hj => upd_on (h j hj)), hR.w5.keepM rfl (fun h j hj => upd_on (h j hj)), hR.w6.keepM rfl (fun h j hj => upd_on (h j hj)), hR.w7.keepM rfl (fun h j hj => upd_on (h j hj)), hR.w8.keepM rfl (fun h j hj => upd_on (h j hj)), hR.w9.keepM rfl (fun h j hj => upd_on (h j hj)), hR.w10.keepM rfl (fun h j hj => upd_on (h j hj)), hR.w11.keepM rfl (fun h j hj => upd_on (h j hj)), (fun _ j hj => upd_on (hw j hj)), hR.w13.keepM rfl (fun h j hj => upd_on (h j hj)), hR.w14.keepM rfl (fun h j hj => upd_on (h j hj)), hR.w15.keepM rfl (fun h j hj => upd_on (h j hj)), hR.w16.keepM rfl (fun h j hj => upd_on (h j hj)), hR.w17.keepM rfl (fun h j hj => upd_on (h j hj)), hR.w18.keepM rfl (fun h j hj => upd_on (h j hj)), hR.w19.keepM rfl (fun h j hj => upd_on (h j hj)), hR.w20.keepM rfl (fun h j hj => upd_on (h j hj)), hR.w21.keepM rfl (fun h j hj => upd_on (h j hj))⟩⟩
      refine EachOf.cons [10, 12] rfl (by kernel_rfl) ?_ ?_
      · rintro L A W ⟨v, rfl, hR⟩ hi hw K hK
        have e12 := hR.f12 (hw 12 (by simp))
        have e10 := hR.f10 (hw 10 (by simp))
        simp only [e12, e10]
        clear e12 e10
        go_simp
        refine hK.out _ _ ?_
        exact ⟨(fun jz => if jz = 95 then undef else if jz = 93 then .bool false else if jz = 96 then undef else v jz), rfl, ⟨hR.st, hR.f0.keep rfl, hR.f1.keep rfl, hR.f2.keep rfl, hR.f3.keep rfl, hR.f4.keep rfl, hR.f5.keep rfl, hR.f6.keep rfl, hR.f7.keep rfl, hR.f8.keep rfl, hR.f9.keep rfl, (fun _ => rfl), hR.f11.keep rfl, (fun _ => rfl), (fun _ => rfl), hR.f14.keep rfl, hR.f15.keep rfl, hR.f16.keep rfl, hR.f17.keep rfl, hR.f18.keep rfl, hR.f19.keep rfl, hR.f20.keep rfl, hR.f21.keep rfl, hR.w2.keepM rfl (fun h j hj => upd_on (h j hj)), hR.w3.keepM rfl (fun h j hj => upd_on (h j hj)), hR.w4.keepM rfl (fun h j hj => upd_on (h j hj)), hR.w5.keepM rfl (fun h j hj => upd_on (h j hj)), hR.w6.keepM rfl (fun h j hj => upd_on (h j hj)), hR.w7.keepM rfl (fun h j hj => upd_on (h j hj)), hR.w8.keepM rfl (fun h j hj => upd_on (h j hj)), hR.w9.keepM rfl (fun h j hj => upd_on (h j hj)), hR.w10.keepM rfl (fun h j hj => upd_on (h j hj)), hR.w11.keepM rfl (fun h j hj => upd_on (h j hj)), hR.w12.keepM rfl (fun h j hj => upd_on (h j hj)), (fun _ j hj => upd_on (hw j hj)), hR.w14.keepM rfl (fun h j hj => upd_on (h j hj)), hR.w15.keepM rfl (fun h j hj => upd_on (h j hj)), hR.w16.keepM rfl (fun h j hj => upd_on (h j hj)), hR.w17.keepM rfl (fun h j hj => upd_on (h j hj)), hR.w18.keepM rfl (fun h j hj => upd_on (h j hj)), hR.w19.keepM rfl (fun h j hj => upd_on (h j hj)), hR.w20.keepM rfl (fun h j hj => upd_on (h j hj)), hR.w21.keepM rfl (fun h j hj => upd_on (h j hj))⟩⟩
      refine EachOf.cons [10, 13] rfl (by kernel_rfl) ?_ ?_
      · rintro L A W ⟨v, rfl, hR⟩ hi hw K hK
        have e13 := hR.f13 (hw 13 (by simp))
        have e10 := hR.f10 (hw 10 (by simp))
        simp only [e13, e10]
        clear e13 e10
        go_simp
        refine hK.out _ _ ?_
        exact ⟨(fun jz => if jz = 96 then undef else if jz = 93 then .bool false else if jz = 97 then undef else v jz), rfl, ⟨hR.st, hR.f0.keep rfl, hR.f1.keep rfl, hR.f2.keep rfl, hR.f3.keep rfl, hR.f4.keep rfl, hR.f5.keep rfl, hR.f6.keep rfl, hR.f7.keep rfl, hR.f8.keep rfl, hR.f9.keep rfl, (fun _ => rfl), hR.f11.keep rfl, hR.f12.keep rfl, (fun _ => rfl), (fun _ => rfl), hR.f15.keep rfl, hR.f16.keep rfl, hR.f17.keep rfl, hR.f18.keep rfl, hR.f19.keep rfl, hR.f20.keep rfl, hR.f21.keep rfl, hR.w2.keepM rfl (fun h j hj => upd_on (h j hj)), hR.w3.keepM rfl (fun h j hj => upd_on (h j hj)), hR.w4.keepM rfl (fun h j hj => upd_on (h j hj)), hR.w5.keepM rfl (fun h j hj => upd_on (h j hj)), hR.w6.keepM rfl (fun h j hj => upd_on (h j hj)), hR.w7.keepM rfl (fun h j hj => upd_on (h j hj)), hR.w8.keepM rfl (fun h j hj => upd_on (h j hj)), hR.w9.keepM rfl (fun h j hj => upd_on (h j hj)), hR.w10.keepM rfl (fun h j hj => upd_on (h j hj)), hR.w11.keepM rfl (fun h j hj => upd_on (h j hj)), hR.w12.keepM rfl (fun h j hj => upd_on (h j hj)), hR.w13.keepM rfl (fun h j hj => upd_on (h j hj)), (fun _ j hj => upd_on (hw j hj)), hR.w15.keepM rfl (fun h j hj => upd_on (h j hj)), hR.w16.keepM rfl (fun h j hj => upd_on (h j hj)), hR.w17.keepM rfl (fun h j hj => upd_on (h j hj)), hR.w18.keepM rfl (fun h j hj => upd_on (h j hj)), hR.w19.keepM rfl (fun h j hj => upd_on (h j hj)), hR.w20.keepM rfl (fun h j hj => upd_on (h j hj)), hR.w21.keepM rfl (fun h j hj => upd_on (h j hj))⟩⟩
      refine EachOf.cons [10, 11, 14] rfl (by kernel_rfl) ?_ ?_
      · rintro L A W ⟨v, rfl, hR⟩ hi hw K hK
        have e11 := hR.f11 (hw 11 (by simp))
        have e14 := hR.f14 (hw 14 (by simp))
        have e10 := hR.f10 (hw 10 (by simp))
        simp only [e11, e14, e10]
        clear e11 e14 e10
        go_simp
        refine hK.out _ _ ?_
        exact ⟨(fun jz => if jz = 94 then undef else if jz = 97 then undef else if jz = 93 then .bool false else if jz = 98 then undef else v jz), rfl, ⟨hR.st, hR.f0.keep rfl, hR.f1.keep rfl, hR.f2.keep rfl, hR.f3.keep rfl, hR.f4.keep rfl, hR.f5.keep rfl, hR.f6.keep rfl, hR.f7.keep rfl, hR.f8.keep rfl, hR.f9.keep rfl, (fun _ => rfl), (fun _ => rfl), hR.f12.keep rfl, hR.f13.keep rfl, (fun _ => rfl), (fun _ => rfl), hR.f16.keep rfl, hR.f17.keep rfl, hR.f18.keep rfl, hR.f19.keep rfl, hR.f20.keep rfl, hR.f21.keep rfl, hR.w2.keepM rfl (fun h j hj => upd_on (h j hj)), hR.w3.keepM rfl (fun h j hj => upd_on (h j hj)), hR.w4.keepM rfl (fun h j hj => upd_on (h j hj)), hR.w5.keepM rfl (fun h j hj => upd_on (h j hj)), hR.w6.keepM rfl (fun h j hj => upd_on (h j hj)), hR.w7.keepM rfl (fun h j hj => upd_on (h j hj)), hR.w8.keepM rfl (fun h j hj => upd_on (h j hj)), hR.w9.keepM rfl (fun h j hj => upd_on (h j hj)), hR.w10.keepM rfl (fun h j hj => upd_on (h j hj)), hR.w11.keepM rfl (fun h j hj => upd_on (h j hj)), hR.w12.keepM rfl (fun h j hj => upd_on (h j hj)), hR.w13.keepM rfl (fun h j hj => upd_on (h j hj)), hR.w14.keepM rfl (fun h j hj => upd_on (h j hj)), (fun _ j hj => upd_on (hw j hj)), hR.w16.keepM rfl (fun h j hj => upd_on (h j hj)), hR.w17.keepM rfl (fun h j hj => upd_on (h j hj)), hR.w18.keepM rfl (fun h j hj => upd_on (h j hj)), hR.w19.keepM rfl (fun h j hj => upd_on (h j hj)), hR.w20.keepM rfl (fun h j hj => upd_on (h j hj)), hR.w21.keepM rfl (fun h j hj => upd_on (h j hj))⟩⟩
      refine EachOf.cons [10, 15] rfl (by kernel_rfl) ?_ ?_
      · rintro L A W ⟨v, rfl, hR⟩ hi hw K hK
        have e15 := hR.f15 (hw 15 (by simp))
        have e10 := hR.f10 (hw 10 (by simp))
        simp only [e15, e10]
        clear e15 e10
        go_simp
        refine hK.out _ _ ?_
        exact ⟨(fun jz => if jz = 98 then undef else if jz = 93 then .bool false else if jz = 99 then undef else v jz), rfl, ⟨hR.st, hR.f0.keep rfl, hR.f1.keep rfl, hR.f2.keep rfl, hR.f3.keep rfl, hR.f4.keep rfl, hR.f5.keep rfl, hR.f6.keep rfl, hR.f7.keep rfl, hR.f8.keep rfl, hR.f9.keep rfl, (fun _ => rfl), hR.f11.keep rfl, hR.f12.keep rfl, hR.f13.keep rfl, hR.f14.keep rfl, (fun _ => rfl), (fun _ => rfl), hR.f17.keep rfl, hR.f18.keep rfl, hR.f19.keep rfl, hR.f20.keep rfl, hR.f21.keep rfl, hR.w2.keepM rfl (fun h j hj => upd_on (h j hj)), hR.w3.keepM rfl (fun h j hj => upd_on (h j hj)), hR.w4.keepM rfl (fun h j hj => upd_on (h j hj)), hR.w5.keepM rfl (fun h j hj => upd_on (h j hj)), hR.w6.keepM rfl (fun h j hj => upd_on (h j hj)), hR.w7.keepM rfl (fun h j hj => upd_on (h j hj)), hR.w8.keepM rfl (fun h j hj => upd_on (h j hj)), hR.w9.keepM rfl (fun h j hj => upd_on (h j hj)), hR.w10.keepM rfl (fun h j hj => upd_on (h j hj)), hR.w11.keepM rfl (fun h j hj => upd_on (h j hj)), hR.w12.keepM rfl (fun h j hj => upd_on (h j hj)), hR.w13.keepM rfl (fun h j hj => upd_on (h j hj)), hR.w14.keepM rfl (fun h j hj => upd_on (h j hj)), hR.w15.keepM rfl (fun h j hj => upd_on (h j hj)), (fun _ j hj => upd_on (hw j hj)), hR.w17.keepM rfl (fun h j hj => upd_on (h j hj)), hR.w18.keepM rfl (fun h j hj => upd_on (h j hj)), hR.w19.keepM rfl (fun h j hj => upd_on (h j hj)), hR.w20.keepM rfl (fun h j hj => upd_on (h j hj)), hR.w21.keepM rfl (fun h j hj => upd_on (h j hj))⟩⟩
      refine EachOf.cons [10] rfl (by kernel_rfl) ?_ ?_
      · rintro L A W ⟨v, rfl, hR⟩ hi hw K hK
        have e10 := hR.f10 (hw 10 (by simp))
        simp only [e10]
        clear e10
        go_simp
        refine hK.out _ _ ?_
        exact ⟨(fun jz => if jz = 93 then .bool false else if jz = 100 then undef else v jz), rfl, ⟨hR.st, hR.f0.keep rfl, hR.f1.keep rfl, hR.f2.keep rfl, hR.f3.keep rfl, hR.f4.keep rfl, hR.f5.keep rfl, hR.f6.keep rfl, hR.f7.keep rfl, hR.f8.keep rfl, hR.f9.keep rfl, (fun _ => rfl), hR.f11.keep rfl, hR.f12.keep rfl, hR.f13.keep rfl, hR.f14.keep rfl, hR.f15.keep rfl, hR.f16.keep rfl, (fun _ => rfl), hR.f18.keep rfl, hR.f19.keep rfl, hR.f20.keep rfl, hR.f21.keep rfl, hR.w2.keepM rfl (fun h j hj => upd_on (h j hj)), hR.w3.keepM rfl (fun h j hj => upd_on (h j hj)), hR.w4.keepM rfl (fun h j hj => upd_on (h j hj)), hR.w5.keepM rfl (fun h j hj => upd_on (h j hj)), hR.w6.keepM rfl (fun h j hj => upd_on (h j hj)), hR.w7.keepM rfl (fun h j hj => upd_on (h j hj)), hR.w8.keepM rfl (fun h j hj => upd_on (h j hj)), hR.w9.keepM rfl (fun h j hj => upd_on (h j hj)), hR.w10.keepM rfl (fun h j hj => upd_on (h j hj)), hR.w11.keepM rfl (fun h j hj => upd_on (h j hj)), hR.w12.keepM rfl (fun h j hj => upd_on (h j hj)), hR.w13.keepM rfl (fun h j hj => upd_on (h j hj)), hR.w14.keepM rfl (fun h j hj => upd_on (h j hj)), hR.w15.keepM rfl (fun h j hj => upd_on (h j hj)), hR.w16.keepM rfl (fun h j hj => upd_on (h j hj)), (fun _ j hj => upd_on (hw j hj)), hR.w18.keepM rfl (fun h j hj => upd_on (h j hj)), hR.w19.keepM rfl (fun h j hj => upd_on (h j hj)), hR.w20.keepM rfl (fun h j hj => upd_on (h j hj)), hR.w21.keepM rfl (fun h j hj => upd_on (h j hj))⟩⟩
      refine EachOf.cons [10, 17] rfl (by kernel_rfl) ?_ ?_
      · rintro L A W ⟨v, rfl, hR⟩ hi hw K hK
        have e17 := hR.f17 (hw 17 (by simp))
        have e10 := hR.f10 (hw 10 (by simp))
        simp only [e17, e10]
        clear e17 e10
        go_simp
        refine hK.out _ _ ?_
        exact ⟨(fun jz => if jz = 100 then undef else if jz = 93 then .bool false else if jz = 101 then undef else v jz), rfl, ⟨hR.st, hR.f0.keep rfl, hR.f1.keep rfl, hR.f2.keep rfl, hR.f3.keep rfl, hR.f4.keep rfl, hR.f5.keep rfl, hR.f6.keep rfl, hR.f7.keep rfl, hR.f8.keep rfl, hR.f9.keep rfl, (fun _ => rfl), hR.f11.keep rfl, hR.f12.keep rfl, hR.f13.keep rfl, hR.f14.keep rfl, hR.f15.keep rfl, hR.f16.keep rfl, (fun _ => rfl), (fun _ => rfl), hR.f19.keep rfl, hR.f20.keep rfl, hR.f21.keep rfl, hR.w2.keepM rfl (fun h j hj => upd_on (h j hj)), hR.w3.keepM rfl (fun h j hj => upd_on (h j hj)), hR.w4.keepM rfl (fun h j hj => upd_on (h j hj)), hR.w5.keepM rfl (fun h j hj => upd_on (h j hj)), hR.w6.keepM rfl (fun h j hj => upd_on (h j hj)), hR.w7.keepM rfl (fun h j hj => upd_on (h j hj)), hR.w8.keepM rfl (fun h j hj => upd_on (h j hj)), hR.w9.keepM rfl (fun h j hj => upd_on (h j hj)), hR.w10.keepM rfl (fun h j hj => upd_on (h j hj)), hR.w11.keepM rfl (fun h j hj => upd_on (h j hj)), hR.w12.keepM rfl (fun h j hj => upd_on (h j hj)), hR.w13.keepM rfl (fun h j hj => upd_on (h j hj)), hR.w14.keepM rfl (fun h j hj => upd_on (h j hj)), hR.w15.keepM rfl (fun h j hj => upd_on (h j hj)), hR.w16.keepM rfl (fun h j hj => upd_on (h j hj)), hR.w17.keepM rfl (fun h j hj => upd_on (h j hj)), (fun _ j hj => upd_on (hw j hj)), hR.w19.keepM rfl (fun h j hj => upd_on (h j hj)), hR.w20.keepM rfl (fun h j hj => upd_on (h j hj)), hR.w21.keepM rfl (fun h j hj => upd_on (h j hj))⟩⟩
      refine EachOf.cons [10, 16, 18] rfl (by kernel_rfl) ?_ ?_
      · rintro L A W ⟨v, rfl, hR⟩ hi hw K hK
        have e16 := hR.f16 (hw 16 (by simp))
        have e18 := hR.f18 (hw 18 (by simp))
        have e10 := hR.f10 (hw 10 (by simp))
        simp only [e16, e18, e10]
        clear e16 e18 e10
        go_simp
        refine hK.out _ _ ?_
        exact ⟨(fun jz => if jz = 99 then undef else if jz = 101 then undef else if jz = 93 then .bool false else if jz = 102 then undef else v jz), rfl, ⟨hR.st, hR.f0.keep rfl, hR.f1.keep rfl, hR.f2.keep rfl, hR.f3.keep rfl, hR.f4.keep rfl, hR.f5.keep rfl, hR.f6.keep rfl, hR.f7.keep rfl, hR.f8.keep rfl, hR.f9.keep rfl, (fun _ => rfl), hR.f11.keep rfl, hR.f12.keep rfl, hR.f13.keep rfl, hR.f14.keep rfl, hR.f15.keep rfl, (fun _ => rfl), hR.f17.keep rfl, (fun _ => rfl), (fun _ => rfl), hR.f20.keep rfl, hR.f21.keep rfl, hR.w2.keepM rfl (fun h j hj => upd_on (h j hj)), hR.w3.keepM rfl (fun h j hj => upd_on (h j hj)), hR.w4.keepM rfl (fun h j hj => upd_on (h j hj)), hR.w5.keepM rfl (fun h j hj => upd_on (h j hj)), hR.w6.keepM rfl (fun h j hj => upd_on (h j hj)), hR.w7.keepM rfl (fun h j hj => upd_on (h j hj)), hR.w8.keepM rfl (fun h j hj => upd_on (h j hj)), hR.w9.keepM rfl (fun h j hj => upd_on (h j hj)), hR.w10.keepM rfl (fun h j hj => upd_on (h j hj)), hR.w11.keepM rfl (fun h j hj => upd_on (h j hj)), hR.w12.keepM rfl (fun h j hj => upd_on (h j hj)), hR.w13.keepM rfl (fun h j hj => upd_on (h j hj)), hR.w14.keepM rfl (fun h j hj => upd_on (h j hj)), hR.w15.keepM rfl (fun h j hj => upd_on (h j hj)), hR.w16.keepM rfl (fun h j hj => upd_on (h j hj)), hR.w17.keepM rfl (fun h j hj => upd_on (h j hj)), hR.w18.keepM rfl (fun h j hj => upd_on (h j hj)), (fun _ j hj => upd_on (hw j hj)), hR.w20.keepM rfl (fun h j hj => upd_on (h j hj)), hR.w21.keepM rfl (fun h j hj => upd_on (h j hj))⟩⟩
      refine EachOf.cons [10, 19] rfl (by kernel_rfl) ?_ ?_
      · rintro L A W ⟨v, rfl, hR⟩ hi hw K hK
        have e10 := hR.f10 (hw 10 (by simp))
        have e19 := hR.f19 (hw 19 (by simp))
        simp only [e10, e19]
        clear e10 e19
        go_simp
        refine hK.out _ _ ?_
        exact ⟨(fun jz => if jz = 93 then .bool false else if jz = 102 then undef else if jz = 103 then .bool false else v jz), rfl, ⟨hR.st, hR.f0.keep rfl, hR.f1.keep rfl, hR.f2.keep rfl, hR.f3.keep rfl, hR.f4.keep rfl, hR.f5.keep rfl, hR.f6.keep rfl, hR.f7.keep rfl, hR.f8.keep rfl, hR.f9.keep rfl, (fun _ => rfl), hR.f11.keep rfl, hR.f12.keep rfl, hR.f13.keep rfl, hR.f14.keep rfl, hR.f15.keep rfl, hR.f16.keep rfl, hR.f17.keep rfl, hR.f18.keep rfl, (fun _ => rfl), (fun _ => rfl), hR.f21.keep rfl, hR.w2.keepM rfl (fun h j hj => upd_on (h j hj)), hR.w3.keepM rfl (fun h j hj => upd_on (h j hj)), hR.w4.keepM rfl (fun h j hj => upd_on (h j hj)), hR.w5.keepM rfl (fun h j hj => upd_on (h j hj)), hR.w6.keepM rfl (fun h j hj => upd_on (h j hj)), hR.w7.keepM rfl (fun h j hj => upd_on (h j hj)), hR.w8.keepM rfl (fun h j hj => upd_on (h j hj)), hR.w9.keepM rfl (fun h j hj => upd_on (h j hj)), hR.w10.keepM rfl (fun h j hj => upd_on (h j hj)), hR.w11.keepM rfl (fun h j hj => upd_on (h j hj)), hR.w12.keepM rfl (fun h j hj => upd_on (h j hj)), hR.w13.keepM rfl (fun h j hj => upd_on (h j hj)), hR.w14.keepM rfl (fun h j hj => upd_on (h j hj)), hR.w15.keepM rfl (fun h j hj => upd_on (h j hj)), hR.w16.keepM rfl (fun h j hj => upd_on (h j hj)), hR.w17.keepM rfl (fun h j hj => upd_on (h j hj)), hR.w18.keepM rfl (fun h j hj => upd_on (h j hj)), hR.w19.keepM rfl (fun h j hj => upd_on (h j hj)), (fun _ j hj => upd_on (hw j hj)), hR.w21.keepM rfl (fun h j hj => upd_on (h j hj))⟩⟩
      refine EachOf.cons [20] rfl (by kernel_rfl) ?_ ?_
      · rintro L A W ⟨v, rfl, hR⟩ hi hw K hK
        have e20 := hR.f20 (hw 20 (by simp))
        simp only [e20]
        clear e20
        go_simp
        refine hK.out _ _ ?_
        exact ⟨(fun jz => if jz = 103 then .bool false else if jz = 13 then .bool false else v jz), rfl, ⟨hR.st, hR.f0.keep rfl, hR.f1.keep rfl, hR.f2.keep rfl, hR.f3.keep rfl, hR.f4.keep rfl, hR.f5.keep rfl, hR.f6.keep rfl, hR.f7.keep rfl, hR.f8.keep rfl, hR.f9.keep rfl, hR.f10.keep rfl, hR.f11.keep rfl, hR.f12.keep rfl, hR.f13.keep rfl, hR.f14.keep rfl, hR.f15.keep rfl, hR.f16.keep rfl, hR.f17.keep rfl, hR.f18.keep rfl, hR.f19.keep rfl, (fun _ => rfl), (fun _ => rfl), hR.w2.keepM rfl (fun h j hj => upd_on (h j hj)), hR.w3.keepM rfl (fun h j hj => upd_on (h j hj)), hR.w4.keepM rfl (fun h j hj => upd_on (h j hj)), hR.w5.keepM rfl (fun h j hj => upd_on (h j hj)), hR.w6.keepM rfl (fun h j hj => upd_on (h j hj)), hR.w7.keepM rfl (fun h j hj => upd_on (h j hj)), hR.w8.keepM rfl (fun h j hj => upd_on (h j hj)), hR.w9.keepM rfl (fun h j hj => upd_on (h j hj)), hR.w10.keepM rfl (fun h j hj => upd_on (h j hj)), hR.w11.keepM rfl (fun h j hj => upd_on (h j hj)), hR.w12.keepM rfl (fun h j hj => upd_on (h j hj)), hR.w13.keepM rfl (fun h j hj => upd_on (h j hj)), hR.w14.keepM rfl (fun h j hj => upd_on (h j hj)), hR.w15.keepM rfl (fun h j hj => upd_on (h j hj)), hR.w16.keepM rfl (fun h j hj => upd_on (h j hj)), hR.w17.keepM rfl (fun h j hj => upd_on (h j hj)), hR.w18.keepM rfl (fun h j hj => upd_on (h j hj)), hR.w19.keepM rfl (fun h j hj => upd_on (h j hj)), hR.w20.keepM rfl (fun h j hj => upd_on (h j hj)), (fun _ j hj => upd_on (hw j hj))⟩⟩
      exact EachOf.nil
    rintro L A W ⟨v, rfl, hR⟩ hL
    have e21 := hR.f21 (hL 21 (by simp))
    simp only [e21]
    have HVB := Lib.hid (HVB.out.on hR.st)
    have HKB := Lib.hid (HKB.out.on hR.st)
    have HB := Lib.hid (below_on HB.out hR.st)
    clear e21 hR hL C1 C2 LP0 LP1 LY LV0 LV1 LT0 LT1 HXB
    obtain ⟨_, b0, b1⟩ := HVB.out
    have k0 := HKB.out.c0
    have k1 := HKB.out.c1
    cases fv
    · go_wp2_with fail
      go_ret2
      (first | exact ⟨HB.out, false, 0, rfl, .inr (.inr (.inr ⟨hok, HFV.out.1, HFV.out.2.1, HFV.out.2.2, rfl, rfl, HCF.out, ⟨fun h => (by cases h), fun h => absurd h HNO.out⟩, rfl⟩))⟩ | exact ⟨HB.out, .inl ⟨0, rfl, .inr (.inr (.inr ⟨hok, HFV.out.1, HFV.out.2.1, HFV.out.2.2, rfl, rfl, HCF.out, ⟨fun h => (by cases h), fun h => absurd h HNO.out⟩, rfl⟩))⟩⟩)
    · by_cases h1 : ra = va
      · subst h1
        by_cases h2 : rd = vd
        · subst h2
          go_wp2_with fail
          go_ret2
          (first | exact ⟨HB.out, false, 0, rfl, .inr (.inr (.inr ⟨hok, HFV.out.1, HFV.out.2.1, HFV.out.2.2, rfl, rfl, HCF.out, ⟨fun h => (by cases h), fun h => absurd h HNO.out⟩, rfl⟩))⟩ | exact ⟨HB.out, .inl ⟨0, rfl, .inr (.inr (.inr ⟨hok, HFV.out.1, HFV.out.2.1, HFV.out.2.2, rfl, rfl, HCF.out, ⟨fun h => (by cases h), fun h => absurd h HNO.out⟩, rfl⟩))⟩⟩)
        · go_wp2_with fail
          go_ret2
          (first | exact ⟨HB.out, false, 0, rfl, .inr (.inr (.inr ⟨hok, HFV.out.1, HFV.out.2.1, HFV.out.2.2, rfl, rfl, HCF.out, ⟨fun h => (by cases h), fun h => absurd h HNO.out⟩, rfl⟩))⟩ | exact ⟨HB.out, .inl ⟨0, rfl, .inr (.inr (.inr ⟨hok, HFV.out.1, HFV.out.2.1, HFV.out.2.2, rfl, rfl, HCF.out, ⟨fun h => (by cases h), fun h => absurd h HNO.out⟩, rfl⟩))⟩⟩)
      · go_wp2_with fail
        go_ret2
        (first | exact ⟨HB.out, false, 0, rfl, .inr (.inr (.inr ⟨hok, HFV.out.1, HFV.out.2.1, HFV.out.2.2, rfl, rfl, HCF.out, ⟨fun h => (by cases h), fun h => absurd h HNO.out⟩, rfl⟩))⟩ | exact ⟨HB.out, .inl ⟨0, rfl, .inr (.inr (.inr ⟨hok, HFV.out.1, HFV.out.2.1, HFV.out.2.2, rfl, rfl, HCF.out, ⟨fun h => (by cases h), fun h => absurd h HNO.out⟩, rfl⟩))⟩⟩)
  cases v2
  case false =>
    have HNO : Hid (¬ ChkR p va vd X Y) := fun h => by have := HV2.out.2 h.col; cases this
    refine wp_region_each (fun L A W => ∃ (v : Nat → Value), A = ⟨#[_, _, _, _, _, _, _, _, _, _, _, _, _, v 13, _, _, _, _, _, _, _, _, _, _, _, _, _, _, _, _, _, _, _, _, _, _, _, _, _, _, _, _, _, _, _, _, _, _, _, _, _, _, _, _, _, _, _, _, _, _, _, _, _, _, _, _, _, _, _, _, _, _, _, _, _, _, _, _, _, _, _, _, _, v 83, v 84, v 85, v 86, v 87, v 88, v 89, v 90, v 91, v 92, v 93, v 94, v 95, v 96, v 97, v 98, v 99, v 100, v 101, v 102, v 103, _, _, _, _, _, _, _, _, _, _], []⟩ ∧ CkBR xb kb ab p.n p.m p.cc p.rc yc p.ca p.ra ya a d va vd wc L v W) (by kernel_rfl) (by kernel_rfl) ⟨fun jz => if jz = 83 then undef else if jz = 84 then undef else if jz = 85 then undef else if jz = 86 then undef else if jz = 87 then undef else if jz = 88 then undef else if jz = 89 then undef else if jz = 90 then undef else if jz = 91 then undef else if jz = 92 then undef else if jz = 93 then undef else if jz = 94 then undef else if jz = 95 then undef else if jz = 96 then undef else if jz = 97 then undef else if jz = 98 then undef else if jz = 99 then undef else if jz = 100 then undef else if jz = 101 then undef else if jz = 102 then undef else if jz = 103 then undef else if jz = 13 then undef else undef, rfl, ⟨Below.drew (Below.refl _ _), Had.none, Had.none, Had.none, Had.none, Had.none, Had.none, Had.none, Had.none, Had.none, Had.none, Had.none, Had.none, Had.none, Had.none, Had.none, Had.none, Had.none, Had.none, Had.none, Had.none, Had.none, Had.none, Had.none, Had.none, Had.none, Had.none, Had.none, Had.none, Had.none, Had.none, Had.none, Had.none, Had.none, Had.none, Had.none, Had.none, Had.none, Had.none, Had.none, Had.none, Had.none, Had.none⟩⟩ (rs := [0, 1, 2, 3, 4, 5, 6, 7, 8, 9, 10, 11, 12, 13, 14, 15, 16, 17, 18, 19, 20, 21]) (by kernel_rfl) ?_ ?_
    · refine EachOf.cons [] rfl (by kernel_rfl) ?_ ?_
      · rintro L A W ⟨v, rfl, hR⟩ hi hw K hK
        have q0 := (hR.st.cell (p := ⟨xb, 0, none⟩) LP0.out.2).trans LP0.out.1
        have q1 := (hR.st.cell (p := ⟨xb, 1, none⟩) LP1.out.2).trans LP1.out.1
        go_simp
        refine hK.out _ _ ?_
        exact ⟨(fun jz => if jz = 83 then .agg #[.slice p.ca p.n p.cc, .slice p.ra p.m p.rc] else v jz), rfl, ⟨hR.st, (fun _ => rfl), hR.f1.keep rfl, hR.f2.keep rfl, hR.f3.keep rfl, hR.f4.keep rfl, hR.f5.keep rfl, hR.f6.keep rfl, hR.f7.keep rfl, hR.f8.keep rfl, hR.f9.keep rfl, hR.f10.keep rfl, hR.f11.keep rfl, hR.f12.keep rfl, hR.f13.keep rfl, hR.f14.keep rfl, hR.f15.keep rfl, hR.f16.keep rfl, hR.f17.keep rfl, hR.f18.keep rfl, hR.f19.keep rfl, hR.f20.keep rfl, hR.f21.keep rfl, hR.w2.keepM rfl (fun h j hj => upd_on (h j hj)), hR.w3.keepM rfl (fun h j hj => upd_on (h j hj)), hR.w4.keepM rfl (fun h j hj => upd_on (h j hj)), hR.w5.keepM rfl (fun h j hj => upd_on (h j hj)), hR.w6.keepM rfl (fun h j hj => upd_on (h j hj)), hR.w7.keepM rfl (fun h j hj => upd_on (h j hj)), hR.w8.keepM rfl (fun h j hj => upd_on (h j hj)), hR.w9.keepM rfl (fun h j hj => upd_on (h j hj)), hR.w10.keepM rfl (fun h j hj => upd_on (h j hj)), hR.w11.keepM rfl (fun h j hj => upd_on (h j hj)), hR.w12.keepM rfl (fun h j hj => upd_on (h j hj)), hR.w13.keepM rfl (fun h j hj => upd_on (h j hj)), hR.w14.keepM rfl (fun h j hj => upd_on (h j hj)), hR.w15.keepM rfl (fun h j hj => upd_on (h j hj)), hR.w16.keepM rfl (fun h j hj => upd_on (h j hj)), hR.w17.keepM rfl (fun h j hj => upd_on (h j hj)), hR.w18.keepM rfl (fun h j hj => upd_on (h j hj)), hR.w19.keepM rfl (fun h j hj => upd_on (h j hj)), hR.w20.keepM rfl (fun h j hj => upd_on (h j hj)), hR.w21.keepM rfl (fun h j hj => upd_on (h j hj))⟩⟩
      refine EachOf.cons [] rfl (by kernel_rfl) ?_ ?_
      · rintro L A W ⟨v, rfl, hR⟩ hi hw K hK
        go_simp
        refine hK.out _ _ ?_
        exact ⟨(fun jz => if jz = 84 then .pointer (some ⟨kb, 3, none⟩) else v jz), rfl, ⟨hR.st, hR.f0.keep rfl, (fun _ => rfl), hR.f2.keep rfl, hR.f3.keep rfl, hR.f4.keep rfl, hR.f5.keep rfl, hR.f6.keep rfl, hR.f7.keep rfl, hR.f8.keep rfl, hR.f9.keep rfl, hR.f10.keep rfl, hR.f11.keep rfl, hR.f12.keep rfl, hR.f13.keep rfl, hR.f14.keep rfl, hR.f15.keep rfl, hR.f16.keep rfl, hR.f17.keep rfl, hR.f18.keep rfl, hR.f19.keep rfl, hR.f20.keep rfl, hR.f21.keep rfl, hR.w2.keepM rfl (fun h j hj => upd_on (h j hj)), hR.w3.keepM rfl (fun h j hj => upd_on (h j hj)), hR.w4.keepM rfl (fun h j hj => upd_on (h j hj)), hR.w5.keepM rfl (fun h j hj => upd_on (h j hj)), hR.w6.keepM rfl (fun h j hj => upd_on (h j hj)), hR.w7.keepM rfl (fun h j hj => upd_on (h j hj)), hR.w8.keepM rfl (fun h j hj => upd_on (h j hj)), hR.w9.keepM rfl (fun h j hj => upd_on (h j hj)), hR.w10.keepM rfl (fun h j hj => upd_on (h j hj)), hR.w11.keepM rfl (fun h j hj => upd_on (h j hj)), hR.w12.keepM rfl (fun h j hj => upd_on (h j hj)), hR.w13.keepM rfl (fun h j hj => upd_on (h j hj)), hR.w14.keepM rfl (fun h j hj => upd_on (h j hj)), hR.w15.keepM rfl (fun h j hj => upd_on (h j hj)), hR.w16.keepM rfl (fun h j hj => upd_on (h j hj)), hR.w17.keepM rfl (fun h j hj => upd_on (h j hj)), hR.w18.keepM rfl (fun h j hj => upd_on (h j hj)), hR.w19.keepM rfl (fun h j hj => upd_on (h j hj)), hR.w20.keepM rfl (fun h j hj => upd_on (h j hj)), hR.w21.keepM rfl (fun h j hj => upd_on (h j hj))⟩⟩
      refine EachOf.cons [1] rfl (by kernel_rfl) ?_ ?_
      · rintro L A W ⟨v, rfl, hR⟩ hi hw K hK
        have e1 := hR.f1 (hw 1 (by simp))
        simp only [e1]
        clear e1
        have q0 := (hR.st.cell (p := ⟨kb, 3, none⟩) LY.out.2).trans LY.out.1
        go_simp
        refine hK.out _ _ ?_
        exact ⟨(fun jz => if jz = 84 then .pointer (some ⟨kb, 3, none⟩) else if jz = 85 then .slice ya p.m yc else v jz), rfl, ⟨hR.st, hR.f0.keep rfl, (fun _ => rfl), (fun _ => rfl), hR.f3.keep rfl, hR.f4.keep rfl, hR.f5.keep rfl, hR.f6.keep rfl, hR.f7.keep rfl, hR.f8.keep rfl, hR.f9.keep rfl, hR.f10.keep rfl, hR.f11.keep rfl, hR.f12.keep rfl, hR.f13.keep rfl, hR.f14.keep rfl, hR.f15.keep rfl, hR.f16.keep rfl, hR.f17.keep rfl, hR.f18.keep rfl, hR.f19.keep rfl, hR.f20.keep rfl, hR.f21.keep rfl, (fun _ j hj => upd_on (hw j hj)), hR.w3.keepM rfl (fun h j hj => upd_on (h j hj)), hR.w4.keepM rfl (fun h j hj => upd_on (h j hj)), hR.w5.keepM rfl (fun h j hj => upd_on (h j hj)), hR.w6.keepM rfl (fun h j hj => upd_on (h j hj)), hR.w7.keepM rfl (fun h j hj => upd_on (h j hj)), hR.w8.keepM rfl (fun h j hj => upd_on (h j hj)), hR.w9.keepM rfl (fun h j hj => upd_on (h j hj)), hR.w10.keepM rfl (fun h j hj => upd_on (h j hj)), hR.w11.keepM rfl (fun h j hj => upd_on (h j hj)), hR.w12.keepM rfl (fun h j hj => upd_on (h j hj)), hR.w13.keepM rfl (fun h j hj => upd_on (h j hj)), hR.w14.keepM rfl (fun h j hj => upd_on (h j hj)), hR.w15.keepM rfl (fun h j hj => upd_on (h j hj)), hR.w16.keepM rfl (fun h j hj => upd_on (h j hj)), hR.w17.keepM rfl (fun h j hj => upd_on (h j hj)), hR.w18.keepM rfl (fun h j hj => upd_on (h j hj)), hR.w19.keepM rfl (fun h j hj => upd_on (h j hj)), hR.w20.keepM rfl (fun h j hj => upd_on (h j hj)), hR.w21.keepM rfl (fun h j hj => upd_on (h j hj))⟩⟩
      refine EachOf.cons [0, 2] rfl (by kernel_rfl) ?_ ?_
      · rintro L A W ⟨v, rfl, hR⟩ hi hw K hK
        have e0 := hR.f0 (hw 0 (by simp))
        have e2 := hR.f2 (hw 2 (by simp))
        simp only [e0, e2]
        clear e0 e2
        go_simp
        go_at_call 47
        (with_reducible refine (((C1 W (hR.st))).out.mono ?_))
        rintro e w2 ⟨rfl, hb⟩
        go_simp
        refine hK.out _ _ ?_
        exact ⟨(fun jz => if jz = 83 then .agg #[.slice p.ca p.n p.cc, .slice p.ra p.m p.rc] else if jz = 85 then .slice ya p.m yc else if jz = 86 then .bool true else v jz), rfl, ⟨below_on hR.st hb, (fun _ => rfl), hR.f1.keep rfl, (fun _ => rfl), (fun _ => rfl), hR.f4.keep rfl, hR.f5.keep rfl, hR.f6.keep rfl, hR.f7.keep rfl, hR.f8.keep rfl, hR.f9.keep rfl, hR.f10.keep rfl, hR.f11.keep rfl, hR.f12.keep rfl, hR.f13.keep rfl, hR.f14.keep rfl, hR.f15.keep rfl, hR.f16.keep rfl, hR.f17.keep rfl, hR.f18.keep rfl, hR.f19.keep rfl, hR.f20.keep rfl, hR.f21.keep rfl, hR.w2.keepM rfl (fun h j hj => upd_on (h j hj)), (fun _ j hj => upd_on (hw j hj)), hR.w4.keepM rfl (fun h j hj => upd_on (h j hj)), hR.w5.keepM rfl (fun h j hj => upd_on (h j hj)), hR.w6.keepM rfl (fun h j hj => upd_on (h j hj)), hR.w7.keepM rfl (fun h j hj => upd_on (h j hj)), hR.w8.keepM rfl (fun h j hj => upd_on (h j hj)), hR.w9.keepM rfl (fun h j hj => upd_on (h j hj)), hR.w10.keepM rfl (fun h j hj => upd_on (h j hj)), hR.w11.keepM rfl (fun h j hj => upd_on (h j hj)), hR.w12.keepM rfl (fun h j hj => upd_on (h j hj)), hR.w13.keepM rfl (fun h j hj => upd_on (h j hj)), hR.w14.keepM rfl (fun h j hj => upd_on (h j hj)), hR.w15.keepM rfl (fun h j hj => upd_on (h j hj)), hR.w16.keepM rfl (fun h j hj => upd_on (h j hj)), hR.w17.keepM rfl (fun h j hj => upd_on (h j hj)), hR.w18.keepM rfl (fun h j hj => upd_on (h j hj)), hR.w19.keepM rfl (fun h j hj => upd_on (h j hj)), hR.w20.keepM rfl (fun h j hj => upd_on (h j hj)), hR.w21.keepM rfl (fun h j hj => upd_on (h j hj))⟩⟩
      refine EachOf.cons [3] rfl (by kernel_rfl) ?_ ?_
      · rintro L A W ⟨v, rfl, hR⟩ hi hw K hK
        have e3 := hR.f3 (hw 3 (by simp))
        simp only [e3]
        clear e3
        go_simp
        refine hK.out _ _ ?_
        exact ⟨(fun jz => if jz = 86 then .bool true else if jz = 87 then .bool true else v jz), rfl, ⟨hR.st, hR.f0.keep rfl, hR.f1.keep rfl, hR.f2.keep rfl, (fun _ => rfl), (fun _ => rfl), hR.f5.keep rfl, hR.f6.keep rfl, hR.f7.keep rfl, hR.f8.keep rfl, hR.f9.keep rfl, hR.f10.keep rfl, hR.f11.keep rfl, hR.f12.keep rfl, hR.f13.keep rfl, hR.f14.keep rfl, hR.f15.keep rfl, hR.f16.keep rfl, hR.f17.keep rfl, hR.f18.keep rfl, hR.f19.keep rfl, hR.f20.keep rfl, hR.f21.keep rfl, hR.w2.keepM rfl (fun h j hj => upd_on (h j hj)), hR.w3.keepM rfl (fun h j hj => upd_on (h j hj)), (fun _ j hj => upd_on (hw j hj)), hR.w5.keepM rfl (fun h j hj => upd_on (h j hj)), hR.w6.keepM rfl (fun h j hj => upd_on (h j hj)), hR.w7.keepM rfl (fun h j hj => upd_on (h j hj)), hR.w8.keepM rfl (fun h j hj => upd_on (h j hj)), hR.w9.keepM rfl (fun h j hj => upd_on (h j hj)), hR.w10.keepM rfl (fun h j hj => upd_on (h j hj)), hR.w11.keepM rfl (fun h j hj => upd_on (h j hj)), hR.w12.keepM rfl (fun h j hj => upd_on (h j hj)), hR.w13.keepM rfl (fun h j hj => upd_on (h j hj)), hR.w14.keepM rfl (fun h j hj => upd_on (h j hj)), hR.w15.keepM rfl (fun h j hj => upd_on (h j hj)), hR.w16.keepM rfl (fun h j hj => upd_on (h j hj)), hR.w17.keepM rfl (fun h j hj => upd_on (h j hj)), hR.w18.keepM rfl (fun h j hj => upd_on (h j hj)), hR.w19.keepM rfl (fun h j hj => upd_on (h j hj)), hR.w20.keepM rfl (fun h j hj => upd_on (h j hj)), hR.w21.keepM rfl (fun h j hj => upd_on (h j hj))⟩⟩
      refine EachOf.cons [4] rfl (by kernel_rfl) ?_ ?_
      · rintro L A W ⟨v, rfl, hR⟩ hi hw K hK
        have e4 := hR.f4 (hw 4 (by simp))
        simp only [e4]
        clear e4
        go_simp
        refine hK.out _ _ ?_
        exact ⟨(fun jz => if jz = 87 then .bool true else if jz = 88 then .slice (some ⟨ab, 0, none⟩) (p.n + 1) (p.n + 1) else v jz), rfl, ⟨hR.st, hR.f0.keep rfl, hR.f1.keep rfl, hR.f2.keep rfl, hR.f3.keep rfl, (fun _ => rfl), (fun _ => rfl), hR.f6.keep rfl, hR.f7.keep rfl, hR.f8.keep rfl, hR.f9.keep rfl, hR.f10.keep rfl, hR.f11.keep rfl, hR.f12.keep rfl, hR.f13.keep rfl, hR.f14.keep rfl, hR.f15.keep rfl, hR.f16.keep rfl, hR.f17.keep rfl, hR.f18.keep rfl, hR.f19.keep rfl, hR.f20.keep rfl, hR.f21.keep rfl, hR.w2.keepM rfl (fun h j hj => upd_on (h j hj)), hR.w3.keepM rfl (fun h j hj => upd_on (h j hj)), hR.w4.keepM rfl (fun h j hj => upd_on (h j hj)), (fun _ j hj => upd_on (hw j hj)), hR.w6.keepM rfl (fun h j hj => upd_on (h j hj)), hR.w7.keepM rfl (fun h j hj => upd_on (h j hj)), hR.w8.keepM rfl (fun h j hj => upd_on (h j hj)), hR.w9.keepM rfl (fun h j hj => upd_on (h j hj)), hR.w10.keepM rfl (fun h j hj => upd_on (h j hj)), hR.w11.keepM rfl (fun h j hj => upd_on (h j hj)), hR.w12.keepM rfl (fun h j hj => upd_on (h j hj)), hR.w13.keepM rfl (fun h j hj => upd_on (h j hj)), hR.w14.keepM rfl (fun h j hj => upd_on (h j hj)), hR.w15.keepM rfl (fun h j hj => upd_on (h j hj)), hR.w16.keepM rfl (fun h j hj => upd_on (h j hj)), hR.w17.keepM rfl (fun h j hj => upd_on (h j hj)), hR.w18.keepM rfl (fun h j hj => upd_on (h j hj)), hR.w19.keepM rfl (fun h j hj => upd_on (h j hj)), hR.w20.keepM rfl (fun h j hj => upd_on (h j hj)), hR.w21.keepM rfl (fun h j hj => upd_on (h j hj))⟩⟩
      refine EachOf.cons [4] rfl (by kernel_rfl) ?_ ?_
      · rintro L A W ⟨v, rfl, hR⟩ hi hw K hK
        have e4 := hR.f4 (hw 4 (by simp))
        simp only [e4]
        clear e4
        go_simp
        refine hK.out _ _ ?_
        exact ⟨(fun jz => if jz = 87 then .bool true else if jz = 89 then .pointer (some ⟨xb, 0, none⟩) else v jz), rfl, ⟨hR.st, hR.f0.keep rfl, hR.f1.keep rfl, hR.f2.keep rfl, hR.f3.keep rfl, (fun _ => rfl), hR.f5.keep rfl, (fun _ => rfl), hR.f7.keep rfl, hR.f8.keep rfl, hR.f9.keep rfl, hR.f10.keep rfl, hR.f11.keep rfl, hR.f12.keep rfl, hR.f13.keep rfl, hR.f14.keep rfl, hR.f15.keep rfl, hR.f16.keep rfl, hR.f17.keep rfl, hR.f18.keep rfl, hR.f19.keep rfl, hR.f20.keep rfl, hR.f21.keep rfl, hR.w2.keepM rfl (fun h j hj => upd_on (h j hj)), hR.w3.keepM rfl (fun h j hj => upd_on (h j hj)), hR.w4.keepM rfl (fun h j hj => upd_on (h j hj)), hR.w5.keepM rfl (fun h j hj => upd_on (h j hj)), (fun _ j hj => upd_on (hw j hj)), hR.w7.keepM rfl (fun h j hj => upd_on (h j hj)), hR.w8.keepM rfl (fun h j hj => upd_on (h j hj)), hR.w9.keepM rfl (fun h j hj => upd_on (h j hj)), hR.w10.keepM rfl (fun h j hj => upd_on (h j hj)), hR.w11.keepM rfl (fun h j hj => upd_on (h j hj)), hR.w12.keepM rfl (fun h j hj => upd_on (h j hj)), hR.w13.keepM rfl (fun h j hj => upd_on (h j hj)), hR.w14.keepM rfl (fun h j hj => upd_on (h j hj)), hR.w15.keepM rfl (fun h j hj => upd_on (h j hj)), hR.w16.keepM rfl (fun h j hj => upd_on (h j hj)), hR.w17.keepM rfl (fun h j hj => upd_on (h j hj)), hR.w18.keepM rfl (fun h j hj => upd_on (h j hj)), hR.w19.keepM rfl (fun h j hj => upd_on (h j hj)), hR.w20.keepM rfl (fun h j hj => upd_on (h j hj)), hR.w21.keepM rfl (fun h j hj => upd_on (h j hj))⟩⟩
      refine EachOf.cons [4, 6] rfl (by kernel_rfl) ?_ ?_
      · rintro L A W ⟨v, rfl, hR⟩ hi hw K hK
        have e6 := hR.f6 (hw 6 (by simp))
        have e4 := hR.f4 (hw 4 (by simp))
        simp only [e6, e4]
        clear e6 e4
        have q0 := (hR.st.cell (p := ⟨xb, 0, none⟩) LP0.out.2).trans LP0.out.1
        go_simp
        refine hK.out _ _ ?_
        exact ⟨(fun jz => if jz = 89 then .pointer (some ⟨xb, 0, none⟩) else if jz = 87 then .bool true else if jz = 90 then .slice p.ca p.n p.cc else v jz), rfl, ⟨hR.st, hR.f0.keep rfl, hR.f1.keep rfl, hR.f2.keep rfl, hR.f3.keep rfl, (fun _ => rfl), hR.f5.keep rfl, (fun _ => rfl), (fun _ => rfl), hR.f8.keep rfl, hR.f9.keep rfl, hR.f10.keep rfl, hR.f11.keep rfl, hR.f12.keep rfl, hR.f13.keep rfl, hR.f14.keep rfl, hR.f15.keep rfl, hR.f16.keep rfl, hR.f17.keep rfl, hR.f18.keep rfl, hR.f19.keep rfl, hR.f20.keep rfl, hR.f21.keep rfl, hR.w2.keepM rfl (fun h j hj => upd_on (h j hj)), hR.w3.keepM rfl (fun h j hj => upd_on (h j hj)), hR.w4.keepM rfl (fun h j hj => upd_on (h j hj)), hR.w5.keepM rfl (fun h j hj => upd_on (h j hj)), hR.w6.keepM rfl (fun h j hj => upd_on (h j hj)), (fun _ j hj => upd_on (hw j hj)), hR.w8.keepM rfl (fun h j hj => upd_on (h j hj)), hR.w9.keepM rfl (fun h j hj => upd_on (h j hj)), hR.w10.keepM rfl (fun h j hj => upd_on (h j hj)), hR.w11.keepM rfl (fun h j hj => upd_on (h j hj)), hR.w12.keepM rfl (fun h j hj => upd_on (h j hj)), hR.w13.keepM rfl (fun h j hj => upd_on (h j hj)), hR.w14.keepM rfl (fun h j hj => upd_on (h j hj)), hR.w15.keepM rfl (fun h j hj => upd_on (h j hj)), hR.w16.keepM rfl (fun h j hj => upd_on (h j hj)), hR.w17.keepM rfl (fun h j hj => upd_on (h j hj)), hR.w18.keepM rfl (fun h j hj => upd_on (h j hj)), hR.w19.keepM rfl (fun h j hj => upd_on (h j hj)), hR.w20.keepM rfl (fun h j hj => upd_on (h j hj)), hR.w21.keepM rfl (fun h j hj => upd_on (h j hj))⟩⟩
      refine EachOf.cons [4, 5, 7] rfl (by kernel_rfl) ?_ ?_
      · rintro L A W ⟨v, rfl, hR⟩ hi hw K hK
        have e5 := hR.f5 (hw 5 (by simp))
        have e7 := hR.f7 (hw 7 (by simp))
        have e4 := hR.f4 (hw 4 (by simp))
        simp only [e5, e7, e4]
        clear e5 e7 e4
        go_simp
        go_at_call 48
        (with_reducible refine (((C2 W (hR.st))).out.mono ?_))
        rintro e w2 ⟨rfl, hb⟩
        go_simp
        refine hK.out _ _ ?_
        exact ⟨(fun jz => if jz = 88 then .slice (some ⟨ab, 0, none⟩) (p.n + 1) (p.n + 1) else if jz = 90 then .slice p.ca p.n p.cc else if jz = 87 then .bool true else if jz = 91 then .bool false else v jz), rfl, ⟨below_on hR.st hb, hR.f0.keep rfl, hR.f1.keep rfl, hR.f2.keep rfl, hR.f3.keep rfl, (fun _ => rfl), (fun _ => rfl), hR.f6.keep rfl, (fun _ => rfl), (fun _ => rfl), hR.f9.keep rfl, hR.f10.keep rfl, hR.f11.keep rfl, hR.f12.keep rfl, hR.f13.keep rfl, hR.f14.keep rfl, hR.f15.keep rfl, hR.f16.keep rfl, hR.f17.keep rfl, hR.f18.keep rfl, hR.f19.keep rfl, hR.f20.keep rfl, hR.f21.keep rfl, hR.w2.keepM rfl (fun h j hj => upd_on (h j hj)), hR.w3.keepM rfl (fun h j hj => upd_on (h j hj)), hR.w4.keepM rfl (fun h j hj => upd_on (h j hj)), hR.w5.keepM rfl (fun h j hj => upd_on (h j hj)), hR.w6.keepM rfl (fun h j hj => upd_on (h j hj)), hR.w7.keepM rfl (fun h j hj => upd_on (h j hj)), (fun _ j hj => upd_on (hw j hj)), hR.w9.keepM rfl (fun h j hj => upd_on (h j hj)), hR.w10.keepM rfl (fun h j hj => upd_on (h j hj)), hR.w11.keepM rfl (fun h j hj => upd_on (h j hj)), hR.w12.keepM rfl (fun h j hj => upd_on (h j hj)), hR.w13.keepM rfl (fun h j hj => upd_on (h j hj)), hR.w14.keepM rfl (fun h j hj => upd_on (h j hj)), hR.w15.keepM rfl (fun h j hj => upd_on (h j hj)), hR.w16.keepM rfl (fun h j hj => upd_on (h j hj)), hR.w17.keepM rfl (fun h j hj => upd_on (h j hj)), hR.w18.keepM rfl (fun h j hj => upd_on (h j hj)), hR.w19.keepM rfl (fun h j hj => upd_on (h j hj)), hR.w20.keepM rfl (fun h j hj => upd_on (h j hj)), hR.w21.keepM rfl (fun h j hj => upd_on (h j hj))⟩⟩
      refine EachOf.cons [4, 8] rfl (by kernel_rfl) ?_ ?_
      · rintro L A W ⟨v, rfl, hR⟩ hi hw K hK
        have e4 := hR.f4 (hw 4 (by simp))
        have e8 := hR.f8 (hw 8 (by simp))
        simp only [e4, e8]
        clear e4 e8
        go_simp
        refine hK.out _ _ ?_
        exact ⟨(fun jz => if jz = 87 then .bool true else if jz = 91 then .bool false else if jz = 92 then .bool false else v jz), rfl, ⟨hR.st, hR.f0.keep rfl, hR.f1.keep rfl, hR.f2.keep rfl, hR.f3.keep rfl, (fun _ => rfl), hR.f5.keep rfl, hR.f6.keep rfl, hR.f7.keep rfl, (fun _ => rfl), (fun _ => rfl), hR.f10.keep rfl, hR.f11.keep rfl, hR.f12.keep rfl, hR.f13.keep rfl, hR.f14.keep rfl, hR.f15.keep rfl, hR.f16.keep rfl, hR.f17.keep rfl, hR.f18.keep rfl, hR.f19.keep rfl, hR.f20.keep rfl, hR.f21.keep rfl, hR.w2.keepM rfl (fun h j hj => upd_on (h j hj)), hR.w3.keepM rfl (fun h j hj => upd_on (h j hj)), hR.w4.keepM rfl (fun h j hj => upd_on (h j hj)), hR.w5.keepM rfl (fun h j hj => upd_on (h j hj)), hR.w6.keepM rfl (fun h j hj => upd_on (h j hj)), hR.w7.keepM rfl (fun h j hj => upd_on (h j hj)), hR.w8.keepM rfl (fun h j hj => upd_on (h j hj)), (fun _ j hj => upd_on (hw j hj)), hR.w10.keepM rfl (fun h j hj => upd_on (h j hj)), hR.w11.keepM rfl (fun h j hj => upd_on (h j hj)), hR.w12.keepM rfl (fun h j hj => upd_on (h j hj)), hR.w13.keepM rfl (fun h j hj => upd_on (h j hj)), hR.w14.keepM rfl (fun h j hj => upd_on (h j hj)), hR.w15.keepM rfl (fun h j hj => upd_on (h j hj)), hR.w16.keepM rfl (fun h j hj => upd_on (h j hj)), hR.w17.keepM rfl (fun h j hj => upd_on (h j hj)), hR.w18.keepM rfl (fun h j hj => upd_on (h j hj)), hR.w19.keepM rfl (fun h j hj => upd_on (h j hj)), hR.w20.keepM rfl (fun h j hj => upd_on (h j hj)), hR.w21.keepM rfl (fun h j hj => upd_on (h j hj))⟩⟩
      refine EachOf.cons [9] rfl (by kernel_rfl) ?_ ?_
      · rintro L A W ⟨v, rfl, hR⟩ hi hw K hK
        have e9 := hR.f9 (hw 9 (by simp))
        simp only [e9]
        clear e9
        go_simp
        refine hK.out _ _ ?_
        exact ⟨(fun jz => if jz = 92 then .bool false else if jz = 93 then .bool false else v jz), rfl, ⟨hR.st, hR.f0.keep rfl, hR.f1.keep rfl, hR.f2.keep rfl, hR.f3.keep rfl, hR.f4.keep rfl, hR.f5.keep rfl, hR.f6.keep rfl, hR.f7.keep rfl, hR.f8.keep rfl, (fun _ => rfl), (fun _ => rfl), hR.f11.keep rfl, hR.f12.keep rfl, hR.f13.keep rfl, hR.f14.keep rfl, hR.f15.keep rfl, hR.f16.keep rfl, hR.f17.keep rfl, hR.f18.keep rfl, hR.f19.keep rfl, hR.f20.keep rfl, hR.f21.keep rfl, hR.w2.keepM rfl (fun h j hj => upd_on (h j hj)), hR.w3.keepM rfl (fun h j hj => upd_on (h j hj)), hR.w4.keepM rfl (fun h j hj => upd_on (h j hj)), hR.w5.keepM rfl (fun h j hj => upd_on (h j hj)), hR.w6.keepM rfl (fun h j hj => upd_on (h j hj)), hR.w7.keepM rfl (fun h j hj => upd_on (h j hj)), hR.w8.keepM rfl (fun h j hj => upd_on (h j hj)), hR.w9.keepM rfl (fun h j hj => upd_on (h j hj)), (fun _ j hj => upd_on (hw j hj)), hR.w11.keepM rfl (fun h j hj => upd_on (h j hj)), hR.w12.keepM rfl (fun h j hj => upd_on (h j hj)), hR.w13.keepM rfl (fun h j hj => upd_on (h j hj)), hR.w14.keepM rfl (fun h j hj => upd_on (h j hj)), hR.w15.keepM rfl (fun h j hj => upd_on (h j hj)), hR.w16.keepM rfl (fun h j hj => upd_on (h j hj)), hR.w17.keepM rfl (fun h j hj => upd_on (h j hj)), hR.w18.keepM rfl (fun h j hj => upd_on (h j hj)), hR.w19.keepM rfl (fun h j hj => upd_on (h j hj)), hR.w20.keepM rfl (fun h j hj => upd_on (h j hj)), hR.w21.keepM rfl (fun h j hj => upd_on (h j hj))⟩⟩
      refine EachOf.cons [10] rfl (by kernel_rfl) ?_ ?_
      · rintro L A W ⟨v, rfl, hR⟩ hi hw K hK
        have e10 := hR.f10 (hw 10 (by simp))
        simp only [e10]
        clear e10
        go_simp
        refine hK.out _ _ ?_
        exact ⟨(fun jz => if jz = 93 then .bool false else if jz = 94 then undef else v jz), rfl, ⟨hR.st, hR.f0.keep rfl, hR.f1.keep rfl, hR.f2.keep rfl, hR.f3.keep rfl, hR.f4.keep rfl, hR.f5.keep rfl, hR.f6.keep rfl, hR.f7.keep rfl, hR.f8.keep rfl, hR.f9.keep rfl, (fun _ => rfl), (fun _ => rfl), hR.f12.keep rfl, hR.f13.keep rfl, hR.f14.keep rfl, hR.f15.keep rfl, hR.f16.keep rfl, hR.f17.keep rfl, hR.f18.keep rfl, hR.f19.keep rfl, hR.f20.keep rfl, hR.f21.keep rfl, hR.w2.keepM rfl (fun h j hj => upd_on (h j hj)), hR.w3.keepM rfl (fun h j hj => upd_on (h j hj)), hR.w4.keepM rfl (fun h j hj => upd_on (h j hj)), hR.w5.keepM rfl (fun h j hj => upd_on (h j hj)), hR.w6.keepM rfl (fun h j hj => upd_on (h j hj)), hR.w7.keepM rfl (fun h j hj => upd_on (h j hj)), hR.w8.keepM rfl (fun h j hj => upd_on (h j hj)), hR.w9.keepM rfl (fun h j hj => upd_on (h j hj)), hR.w10.keepM rfl (fun h j hj => upd_on (h j hj)), (fun _ j hj => upd_on (hw j hj)), hR.w12.keepM rfl (fun h j hj => upd_on (h j hj)), hR.w13.keepM rfl (fun h j hj => upd_on (h j hj)), hR.w14.keepM rfl (fun h j hj => upd_on (h j hj)), hR.w15.keepM rfl (fun h j hj => upd_on (h j hj)), hR.w16.keepM rfl (fun h j hj => upd_on (h j hj)), hR.w17.keepM rfl (fun h j hj => upd_on (h j hj)), hR.w18.keepM rfl (fun h j hj => upd_on (h j hj)), hR.w19.keepM rfl (fun h j hj => upd_on (h j hj)), hR.w20.keepM rfl (fun h j hj => upd_on (h j hj)), hR.w21.keepM rfl (fun h j hj => upd_on (h j hj))⟩⟩
      refine EachOf.cons [10] rfl (by kernel_rfl) ?_ ?_
      · rintro L A W ⟨v, rfl, hR⟩ hi hw K hK
        have e10 := hR.f10 (hw 10 (by simp))
        simp only [e10]
        clear e10
        go_simp
        refine hK.out _ _ ?_
        exact ⟨(fun jz => if jz = 93 then .bool false else if jz = 95 then undef else v jz), rfl, ⟨hR.st, hR.f0.keep rfl, hR.f1.keep rfl, hR.f2.keep rfl, hR.f3.keep rfl, hR.f4.keep rfl, hR.f5.keep rfl, hR.f6.keep rfl, hR.f7.keep rfl, hR.f8.keep rfl, hR.f9.keep rfl, (fun _ => rfl), hR.f11.keep rfl, (fun _ => rfl), hR.f13.keep rfl, hR.f14.keep rfl, hR.f15.keep rfl, hR.f16.keep rfl, hR.f17.keep rfl, hR.f18.keep rfl, hR.f19.keep rfl, hR.f20.keep rfl, hR.f21.keep rfl, hR.w2.keepM rfl (fun h j hj => upd_on (h j hj)), hR.w3.keepM rfl (fun h j hj => upd_on (h j hj)), hR.w4.keepM rfl (fun h j hj => upd_on (h j hj)), hR.w5.keepM rfl (fun h j hj => upd_on (h j hj)), hR.w6.keepM rfl (fun h j hj => upd_on (h j hj)), hR.w7.keepM rfl (fun h j hj => upd_on (h j hj)), hR.w8.keepM rfl (fun h j hj => upd_on (h j hj)), hR.w9.keepM rfl (fun h j hj => upd_on (h j hj)), hR.w10.keepM rfl (fun h j hj => upd_on (h j hj)), hR.w11.keepM rfl (fun h j hj => upd_on (h j hj)), (fun _ j hj => upd_on (hw j hj)), hR.w13.keepM rfl (fun h j hj => upd_on (h j hj)), hR.w14.keepM rfl (fun h j hj => upd_on (h j hj)), hR.w15.keepM rfl (fun h j hj => upd_on (h j hj)), hR.w16.keepM rfl (fun h j hj => upd_on (h j hj)), hR.w17.keepM rfl (fun h j hj => upd_on (h j hj)), hR.w18.keepM rfl (fun h j hj => upd_on (h j hj)), hR.w19.keepM rfl (fun h j hj => upd_on (h j hj)), hR.w20.keepM rfl (fun h j hj => upd_on (h j hj)), hR.w21.keepM rfl (fun h j hj => upd_on (h j hj))⟩⟩
      refine EachOf.cons [10, 12] rfl (by kernel_rfl) ?_ ?_
      · rintro L A W ⟨v, rfl, hR⟩ hi hw K hK
        have e12 := hR.f12 (hw 12 (by simp))
        have e10 := hR.f10 (hw 10 (by simp))
        simp only [e12, e10]
        clear e12 e10
        go_simp
        refine hK.out _ _ ?_
        exact ⟨(fun jz => if jz = 95 then undef else if jz = 93 then .bool false else if jz = 96 then undef else v jz), rfl, ⟨hR.st, hR.f0.keep rfl, hR.f1.keep rfl, hR.f2.keep rfl, hR.f3.keep rfl, hR.f4.keep rfl, hR.f5.keep rfl, hR.f6.keep rfl, hR.f7.keep rfl, hR.f8.keep rfl, hR.f9.keep rfl, (fun _ => rfl), hR.f11.keep rfl, (fun _ => rfl), (fun _ => rfl), hR.f14.keep rfl, hR.f15.keep rfl, hR.f16.keep rfl, hR.f17.keep rfl, hR.f18.keep rfl, hR.f19.keep rfl, hR.f20.keep rfl, hR.f21.keep rfl, hR.w2.keepM rfl (fun h j hj => upd_on (h j hj)), hR.w3.keepM rfl (fun h j hj => upd_on (h j hj)), hR.w4.keepM rfl (fun h j hj => upd_on (h j hj)), hR.w5.keepM rfl (fun h j hj => upd_on (h j hj)), hR.w6.keepM rfl (fun h j hj => upd_on (h j hj)), hR.w7.keepM rfl (fun h j hj => upd_on (h j hj)), hR.w8.keepM rfl (fun h j hj => upd_on (h j hj)), hR.w9.keepM rfl (fun h j hj => upd_on (h j hj)), hR.w10.keepM rfl (fun h j hj => upd_on (h j hj)), hR.w11.keepM rfl (fun h j hj => upd_on (h j hj)), hR.w12.keepM rfl (fun h j hj => upd_on (h j hj)), (fun _ j hj => upd_on (hw j hj)), hR.w14.keepM rfl (fun h j hj => upd_on (h j hj)), hR.w15.keepM rfl (fun h j hj => upd_on (h j hj)), hR.w16.keepM rfl (fun h j hj => upd_on (h j hj)), hR.w17.keepM rfl (fun h j hj => upd_on (h j hj)), hR.w18.keepM rfl (fun h j hj => upd_on (h j hj)), hR.w19.keepM rfl (fun h j hj => upd_on (h j hj)), hR.w20.keepM rfl (fun h j hj => upd_on (h j hj)), hR.w21.keepM rfl (fun h j hj => upd_on (h j hj))⟩⟩
      refine EachOf.cons [10, 13] rfl (by kernel_rfl) ?_ ?_
      · rintro L A W ⟨v, rfl, hR⟩ hi hw K hK
        have e13 := hR.f13 (hw 13 (by simp))
        have e10 := hR.f10 (hw 10 (by simp))
        simp only [e13, e10]
        clear e13 e10
        go_simp
        refine hK.out _ _ ?_
        exact ⟨(fun jz => if jz = 96 then undef else if jz = 93 then .bool false else if jz = 97 then undef else v jz), rfl, ⟨hR.st, hR.f0.keep rfl, hR.f1.keep rfl, hR.f2.keep rfl, hR.f3.keep rfl, hR.f4.keep rfl, hR.f5.keep rfl, hR.f6.keep rfl, hR.f7.keep rfl, hR.f8.keep rfl, hR.f9.keep rfl, (fun _ => rfl), hR.f11.keep rfl, hR.f12.keep rfl, (fun _ => rfl), (fun _ => rfl), hR.f15.keep rfl, hR.f16.keep rfl, hR.f17.keep rfl, hR.f18.keep rfl, hR.f19.keep rfl, hR.f20.keep rfl, hR.f21.keep rfl, hR.w2.keepM rfl (fun h j hj => upd_on (h j hj)), hR.w3.keepM rfl (fun h j hj => upd_on (h j hj)), hR.w4.keepM rfl (fun h j hj => upd_on (h j hj)), hR.w5.keepM rfl (fun h j hj => upd_on (h j hj)), hR.w6.keepM rfl (fun h j hj => upd_on (h j hj)), hR.w7.keepM rfl (fun h j hj => upd_on (h j hj)), hR.w8.keepM rfl (fun h j hj => upd_on (h j hj)), hR.w9.keepM rfl (fun h j hj => upd_on (h j hj)), hR.w10.keepM rfl (fun h j hj => upd_on (h j hj)), hR.w11.keepM rfl (fun h j hj => upd_on (h j hj)), hR.w12.keepM rfl (fun h j hj => upd_on (h j hj)), hR.w13.keepM rfl (fun h j hj => upd_on (h j hj)), (fun _ j hj => upd_on (hw j hj)), hR.w15.keepM rfl (fun h j hj => upd_on (h j hj)), hR.w16.keepM rfl (fun h j hj => upd_on (h j hj)), hR.w17.keepM rfl (fun h j hj => upd_on (h j hj)), hR.w18.keepM rfl (fun h j hj => upd_on (h j hj)), hR.w19.keepM rfl (fun h j hj => upd_on (h j hj)), hR.w20.keepM rfl (fun h j hj => upd_on (h j hj)), hR.w21.keepM rfl (fun h j hj => upd_on (h j hj))⟩⟩
      refine EachOf.cons [10, 11, 14] rfl (by kernel_rfl) ?_ ?_
      · rintro L A W ⟨v, rfl, hR⟩ hi hw K hK
        have e11 := hR.f11 (hw 11 (by simp))
        have e14 := hR.f14 (hw 14 (by simp))
        have e10 := hR.f10 (hw 10 (by simp))
        simp only [e11, e14, e10]
        clear e11 e14 e10
        go_simp
        refine hK.out _ _ ?_
        exact ⟨(fun jz => if jz = 94 then undef else if jz = 97 then undef else if jz = 93 then .bool false else if jz = 98 then undef else v jz), rfl, ⟨hR.st, hR.f0.keep rfl, hR.f1.keep rfl, hR.f2.keep rfl, hR.f3.keep rfl, hR.f4.keep rfl, hR.f5.keep rfl, hR.f6.keep rfl, hR.f7.keep rfl, hR.f8.keep rfl, hR.f9.keep rfl, (fun _ => rfl), (fun _ => rfl), hR.f12.keep rfl, hR.f13.keep rfl, (fun _ => rfl), (fun _ => rfl), hR.f16.keep rfl, hR.f17.keep rfl, hR.f18.keep rfl, hR.f19.keep rfl, hR.f20.keep rfl, hR.f21.keep rfl, hR.w2.keepM rfl (fun h j hj => upd_on (h j hj)), hR.w3.keepM rfl (fun h j hj => upd_on (h j hj)), hR.w4.keepM rfl (fun h j hj => upd_on (h j hj)), hR.w5.keepM rfl (fun h j hj => upd_on (h j hj)), hR.w6.keepM rfl (fun h j hj => upd_on (h j hj)), hR.w7.keepM rfl (fun h j hj => upd_on (h j hj)), hR.w8.keepM rfl (fun h j hj => upd_on (h j hj)), hR.w9.keepM rfl (fun h j hj => upd_on (h j hj)), hR.w10.keepM rfl (fun h j hj => upd_on (h j hj)), hR.w11.keepM rfl (fun h j hj => upd_on (h j hj)), hR.w12.keepM rfl (fun h j hj => upd_on (h j hj)), hR.w13.keepM rfl (fun h j hj => upd_on (h j hj)), hR.w14.keepM rfl (fun h j hj => upd_on (h j hj)), (fun _ j hj => upd_on (hw j hj)), hR.w16.keepM rfl (fun h j hj => upd_on (h j hj)), hR.w17.keepM rfl (fun h j hj => upd_on (h j hj)), hR.w18.keepM rfl (fun h j hj => upd_on (h j hj)), hR.w19.keepM rfl (fun h j hj => upd_on (h j hj)), hR.w20.keepM rfl (fun h j hj => upd_on (h j hj)), hR.w21.keepM rfl (fun h j hj => upd_on (h j hj))⟩⟩
      refine EachOf.cons [10, 15] rfl (by kernel_rfl) ?_ ?_
      · rintro L A W ⟨v, rfl, hR⟩ hi hw K hK
        have e15 := hR.f15 (hw 15 (by simp))
        have e10 := hR.f10 (hw 10 (by simp))
        simp only [e15, e10]
        clear e15 e10
        go_simp
        refine hK.out _ _ ?_
        exact ⟨(fun jz => if jz = 98 then undef else if jz = 93 then .bool false else if jz = 99 then undef else v jz), rfl, ⟨hR.st, hR.f0.keep rfl, hR.f1.keep rfl, hR.f2.keep rfl, hR.f3.keep rfl, hR.f4.keep rfl, hR.f5.keep rfl, hR.f6.keep rfl, hR.f7.keep rfl, hR.f8.keep rfl, hR.f9.keep rfl, (fun _ => rfl), hR.f11.keep rfl, hR.f12.keep rfl, hR.f13.keep rfl, hR.f14.keep rfl, (fun _ => rfl), (fun _ => rfl), hR.f17.keep rfl, hR.f18.keep rfl, hR.f19.keep rfl, hR.f20.keep rfl, hR.f21.keep rfl, hR.w2.keepM rfl (fun h j hj => upd_on (h j hj)), hR.w3.keepM rfl (fun h j hj => upd_on (h j hj)), hR.w4.keepM rfl (fun h j hj => upd_on (h j hj)), hR.w5.keepM rfl (fun h j hj => upd_on (h j hj)), hR.w6.keepM rfl (fun h j hj => upd_on (h j hj)), hR.w7.keepM rfl (fun h j hj => upd_on (h j hj)), hR.w8.keepM rfl (fun h j hj => upd_on (h j hj)), hR.w9.keepM rfl (fun h j hj => upd_on (h j hj)), hR.w10.keepM rfl (fun h j hj => upd_on (h j hj)), hR.w11.keepM rfl (fun h j hj => upd_on (h j hj)), hR.w12.keepM rfl (fun h j hj => upd_on (h j hj)), hR.w13.keepM rfl (fun h j hj => upd_on (h j hj)), hR.w14.keepM rfl (fun h j hj => upd_on (h j hj)), hR.w15.keepM rfl (fun h j hj => upd_on (h j hj)), (fun _ j hj => upd_on (hw j hj)), hR.w17.keepM rfl (fun h j hj => upd_on (h j hj)), hR.w18.keepM rfl (fun h j hj => upd_on (h j hj)), hR.w19.keepM rfl (fun h j hj => upd_on (h j hj)), hR.w20.keepM rfl (fun h j hj => upd_on (h j hj)), hR.w21.keepM rfl (fun h j hj => upd_on (h j hj))⟩⟩
      refine EachOf.cons [10] rfl (by kernel_rfl) ?_ ?_
      · rintro L A W ⟨v, rfl, hR⟩ hi hw K hK
        have e10 := hR.f10 (hw 10 (by simp))
        simp only [e10]
        clear e10
        go_simp
        refine hK.out _ _ ?_
        exact ⟨(fun jz => if jz = 93 then .bool false else if jz = 100 then undef else v jz), rfl, ⟨hR.st, hR.f0.keep rfl, hR.f1.keep rfl, hR.f2.keep rfl, hR.f3.keep rfl, hR.f4.keep rfl, hR.f5.keep rfl, hR.f6.keep rfl, hR.f7.keep rfl, hR.f8.keep rfl, hR.f9.keep rfl, (fun _ => rfl), hR.f11.keep rfl, hR.f12.keep rfl, hR.f13.keep rfl, hR.f14.keep rfl, hR.f15.keep rfl, hR.f16.keep rfl, (fun _ => rfl), hR.f18.keep rfl, hR.f19.keep rfl, hR.f20.keep rfl, hR.f21.keep rfl, hR.w2.keepM rfl (fun h j hj => upd_on (h j hj)), hR.w3.keepM rfl (fun h j hj => upd_on (h j hj)), hR.w4.keepM rfl (fun h j hj => upd_on (h j hj)), hR.w5.keepM rfl (fun h j hj => upd_on (h j hj)), hR.w6.keepM rfl (fun h j hj => upd_on (h j hj)), hR.w7.keepM rfl (fun h j hj => upd_on (h j hj)), hR.w8.keepM rfl (fun h j hj => upd_on (h j hj)), hR.w9.keepM rfl (fun h j hj => upd_on (h j hj)), hR.w10.keepM rfl (fun h j hj => upd_on (h j hj)), hR.w11.keepM rfl (fun h j hj => upd_on (h j hj)), hR.w12.keepM rfl (fun h j hj => upd_on (h j hj)), hR.w13.keepM rfl (fun h j hj => upd_on (h j hj)), hR.w14.keepM rfl (fun h j hj => upd_on (h j hj)), hR.w15.keepM rfl (fun h j hj => upd_on (h j hj)), hR.w16.keepM rfl (fun h j hj => upd_on (h j hj)), (fun _ j hj => upd_on (hw j hj)), hR.w18.keepM rfl (fun h j hj => upd_on (h j hj)), hR.w19.keepM rfl (fun h j hj => upd_on (h j hj)), hR.w20.keepM rfl (fun h j hj => upd_on (h j hj)), hR.w21.keepM rfl (fun h j hj => upd_on (h j hj))⟩⟩
      refine EachOf.cons [10, 17] rfl (by kernel_rfl) ?_ ?_
      · rintro L A W ⟨v, rfl, hR⟩ hi hw K hK
        have e17 := hR.f17 (hw 17 (by simp))
        have e10 := hR.f10 (hw 10 (by simp))
        simp only [e17, e10]
        clear e17 e10
        go_simp
        refine hK.out _ _ ?_
        exact ⟨(fun jz => if jz = 100 then undef else if jz = 93 then .bool false else if jz = 101 then undef else v jz), rfl, ⟨hR.st, hR.f0.keep rfl, hR.f1.keep rfl, hR.f2.keep rfl, hR.f3.keep rfl, hR.f4.keep rfl, hR.f5.keep rfl, hR.f6.keep rfl, hR.f7.keep rfl, hR.f8.keep rfl, hR.f9.keep rfl, (fun _ => rfl), hR.f11.keep rfl, hR.f12.keep rfl, hR.f13.keep rfl, hR.f14.keep rfl, hR.f15.keep rfl, hR.f16.keep rfl, (fun _ => rfl), (fun _ => rfl), hR.f19.keep rfl, hR.f20.keep rfl, hR.f21.keep rfl, hR.w2.keepM rfl (fun h j hj => upd_on (h j hj)), hR.w3.keepM rfl (fun h j hj => upd_on (h j hj)), hR.w4.keepM rfl (fun h j hj => upd_on (h j hj)), hR.w5.keepM rfl (fun h j hj => upd_on (h j hj)), hR.w6.keepM rfl (fun h j hj => upd_on (h j hj)), hR.w7.keepM rfl (fun h j hj => upd_on (h j hj)), hR.w8.keepM rfl (fun h j hj => upd_on (h j hj)), hR.w9.keepM rfl (fun h j hj => upd_on (h j hj)), hR.w10.keepM rfl (fun h j hj => upd_on (h j hj)), hR.w11.keepM rfl (fun h j hj => upd_on (h j hj)), hR.w12.keepM rfl (fun h j hj => upd_on (h j hj)), hR.w13.keepM rfl (fun h j hj => upd_on (h j hj)), hR.w14.keepM rfl (fun h j hj => upd_on (h j hj)), hR.w15.keepM rfl (fun h j hj => upd_on (h j hj)), hR.w16.keepM rfl (fun h j hj => upd_on (h j hj)), hR.w17.keepM rfl (fun h j hj => upd_on (h j hj)), (fun _ j hj => upd_on (hw j hj)), hR.w19.keepM rfl (fun h j hj => upd_on (h j hj)), hR.w20.keepM rfl (fun h j hj => upd_on (h j hj)), hR.w21.keepM rfl (fun h j hj => upd_on (h j hj))⟩⟩
      refine EachOf.cons [10, 16, 18] rfl (by kernel_rfl) ?_ ?_
      · rintro L A W ⟨v, rfl, hR⟩ hi hw K hK
        have e16 := hR.f16 (hw 16 (by simp))
        have e18 := hR.f18 (hw 18 (by simp))
        have e10 := hR.f10 (hw 10 (by simp))
        simp only [e16, e18, e10]
        clear e16 e18 e10
        go_simp
        refine hK.out _ _ ?_
        exact ⟨(fun jz => if jz = 99 then undef else if jz = 101 then undef else if jz = 93 then .bool false else if jz = 102 then undef else v jz), rfl, ⟨hR.st, hR.f0.keep rfl, hR.f1.keep rfl, hR.f2.keep rfl, hR.f3.keep rfl, hR.f4.keep rfl, hR.f5.keep rfl, hR.f6.keep rfl, hR.f7.keep rfl, hR.f8.keep rfl, hR.f9.keep rfl, (fun _ => rfl), hR.f11.keep rfl, hR.f12.keep rfl, hR.f13.keep rfl, hR.f14.keep rfl, hR.f15.keep rfl, (fun _ => rfl), hR.f17.keep rfl, (fun _ => rfl), (fun _ => rfl), hR.f20.keep rfl, hR.f21.keep rfl, hR.w2.keepM rfl (fun h j hj => upd_on (h j hj)), hR.w3.keepM rfl (fun h j hj => upd_on (h j hj)), hR.w4.keepM rfl (fun h j hj => upd_on (h j hj)), hR.w5.keepM rfl (fun h j hj => upd_on (h j hj)), hR.w6.keepM rfl (fun h j hj => upd_on (h j hj)), hR.w7.keepM rfl (fun h j hj => upd_on (h j hj)), hR.w8.keepM rfl (fun h j hj => upd_on (h j hj)), hR.w9.keepM rfl (fun h j hj => upd_on (h j hj)), hR.w10.keepM rfl (fun h j hj => upd_on (h j hj)), hR.w11.keepM rfl (fun h j hj => upd_on (h j hj)), hR.w12.keepM rfl (fun h j hj => upd_on (h j hj)), hR.w13.keepM rfl (fun h j hj => upd_on (h j hj)), hR.w14.keepM rfl (fun h j hj => upd_on (h j hj)), hR.w15.keepM rfl (fun h j hj => upd_on (h j hj)), hR.w16.keepM rfl (fun h j hj => upd_on (h j hj)), hR.w17.keepM rfl (fun h j hj => upd_on (h j hj)), hR.w18.keepM rfl (fun h j hj => upd_on (h j hj)), (fun _ j hj => upd_on (hw j hj)), hR.w20.keepM rfl (fun h j hj => upd_on (h j hj)), hR.w21.keepM rfl (fun h j hj => upd_on (h j hj))⟩⟩
      refine EachOf.cons [10, 19] rfl (by kernel_rfl) ?_ ?_
      · rintro L A W ⟨v, rfl, hR⟩ hi hw K hK
        have e10 := hR.f10 (hw 10 (by simp))
        have e19 := hR.f19 (hw 19 (by simp))
        simp only [e10, e19]
        clear e10 e19
        go_simp
        refine hK.out _ _ ?_
        exact ⟨(fun jz => if jz = 93 then .bool false else if jz = 102 then undef else if jz = 103 then .bool false else v jz), rfl, ⟨hR.st, hR.f0.keep rfl, hR.f1.keep rfl, hR.f2.keep rfl, hR.f3.keep rfl, hR.f4.keep rfl, hR.f5.keep rfl, hR.f6.keep rfl, hR.f7.keep rfl, hR.f8.keep rfl, hR.f9.keep rfl, (fun _ => rfl), hR.f11.keep rfl, hR.f12.keep rfl, hR.f13.keep rfl, hR.f14.keep rfl, hR.f15.keep rfl, hR.f16.keep rfl, hR.f17.keep rfl, hR.f18.keep rfl, (fun _ => rfl), (fun _ => rfl), hR.f21.keep rfl, hR.w2.keepM rfl (fun h j hj => upd_on (h j hj)), hR.w3.keepM rfl (fun h j hj => upd_on (h j hj)), hR.w4.keepM rfl (fun h j hj => upd_on (h j hj)), hR.w5.keepM rfl (fun h j hj => upd_on (h j hj)), hR.w6.keepM rfl (fun h j hj => upd_on (h j hj)), hR.w7.keepM rfl (fun h j hj => upd_on (h j hj)), hR.w8.keepM rfl (fun h j hj => upd_on (h j hj)), hR.w9.keepM rfl (fun h j hj => upd_on (h j hj)), hR.w10.keepM rfl (fun h j hj => upd_on (h j hj)), hR.w11.keepM rfl (fun h j hj => upd_on (h j hj)), hR.w12.keepM rfl (fun h j hj => upd_on (h j hj)), hR.w13.keepM rfl (fun h j hj => upd_on (h j hj)), hR.w14.keepM rfl (fun h j hj => upd_on (h j hj)), hR.w15.keepM rfl (fun h j hj => upd_on (h j hj)), hR.w16.keepM rfl (fun h j hj => upd_on (h j hj)), hR.w17.keepM rfl (fun h j hj => upd_on (h j hj)), hR.w18.keepM rfl (fun h j hj => upd_on (h j hj)), hR.w19.keepM rfl (fun h j hj => upd_on (h j hj)), (fun _ j hj => upd_on (hw j hj)), hR.w21.keepM rfl (fun h j hj => upd_on (h j hj))⟩⟩
      refine EachOf.cons [20] rfl (by kernel_rfl) ?_ ?_
      · rintro L A W ⟨v, rfl, hR⟩ hi hw K hK
        have e20 := hR.f20 (hw 20 (by simp))
        simp only [e20]
        clear e20
        go_simp
        refine hK.out _ _ ?_
        exact ⟨(fun jz => if jz = 103 then .bool false else if jz = 13 then .bool false else v jz), rfl, ⟨hR.st, hR.f0.keep rfl, hR.f1.keep rfl, hR.f2.keep rfl, hR.f3.keep rfl, hR.f4.keep rfl, hR.f5.keep rfl, hR.f6.keep rfl, hR.f7.keep rfl, hR.f8.keep rfl, hR.f9.keep rfl, hR.f10.keep rfl, hR.f11.keep rfl, hR.f12.keep rfl, hR.f13.keep rfl, hR.f14.keep rfl, hR.f15.keep rfl, hR.f16.keep rfl, hR.f17.keep rfl, hR.f18.keep rfl, hR.f19.keep rfl, (fun _ => rfl), (fun _ => rfl), hR.w2.keepM rfl (fun h j hj => upd_on (h j hj)), hR.w3.keepM rfl (fun h j hj => upd_on (h j hj)), hR.w4.keepM rfl (fun h j hj => upd_on (h j hj)), hR.w5.keepM rfl (fun h j hj => upd_on (h j hj)), hR.w6.keepM rfl (fun h j hj => upd_on (h j hj)), hR.w7.keepM rfl (fun h j hj => upd_on (h j hj)), hR.w8.keepM rfl (fun h j hj => upd_on (h j hj)), hR.w9.keepM rfl (fun h j hj => upd_on (h j hj)), hR.w10.keepM rfl (fun h j hj => upd_on (h j hj)), hR.w11.keepM rfl (fun h j hj => upd_on (h j hj)), hR.w12.keepM rfl (fun h j hj => upd_on (h j hj)), hR.w13.keepM rfl (fun h j hj => upd_on (h j hj)), hR.w14.keepM rfl (fun h j hj => upd_on (h j hj)), hR.w15.keepM rfl (fun h j hj => upd_on (h j hj)), hR.w16.keepM rfl (fun h j hj => upd_on (h j hj)), hR.w17.keepM rfl (fun h j hj => upd_on (h j hj)), hR.w18.keepM rfl (fun h j hj => upd_on (h j hj)), hR.w19.keepM rfl (fun h j hj => upd_on (h j hj)), hR.w20.keepM rfl (fun h j hj => upd_on (h j hj)), (fun _ j hj => upd_on (hw j hj))⟩⟩
      exact EachOf.nil
    rintro L A W ⟨v, rfl, hR⟩ hL
    have e21 := hR.f21 (hL 21 (by simp))
    simp only [e21]
    have HVB := Lib.hid (HVB.out.on hR.st)
    have HKB := Lib.hid (HKB.out.on hR.st)
    have HB := Lib.hid (below_on HB.out hR.st)
    clear e21 hR hL C1 C2 LP0 LP1 LY LV0 LV1 LT0 LT1 HXB
    obtain ⟨_, b0, b1⟩ := HVB.out
    have k0 := HKB.out.c0
    have k1 := HKB.out.c1
    cases fv
    · go_wp2_with fail
      go_ret2
      (first | exact ⟨HB.out, false, 0, rfl, .inr (.inr (.inr ⟨hok, HFV.out.1, HFV.out.2.1, HFV.out.2.2, rfl, rfl, HCF.out, ⟨fun h => (by cases h), fun h => absurd h HNO.out⟩, rfl⟩))⟩ | exact ⟨HB.out, .inl ⟨0, rfl, .inr (.inr (.inr ⟨hok, HFV.out.1, HFV.out.2.1, HFV.out.2.2, rfl, rfl, HCF.out, ⟨fun h => (by cases h), fun h => absurd h HNO.out⟩, rfl⟩))⟩⟩)
    · by_cases h1 : ra = va
      · subst h1
        by_cases h2 : rd = vd
        · subst h2
          go_wp2_with fail
          go_ret2
          (first | exact ⟨HB.out, false, 0, rfl, .inr (.inr (.inr ⟨hok, HFV.out.1, HFV.out.2.1, HFV.out.2.2, rfl, rfl, HCF.out, ⟨fun h => (by cases h), fun h => absurd h HNO.out⟩, rfl⟩))⟩ | exact ⟨HB.out, .inl ⟨0, rfl, .inr (.inr (.inr ⟨hok, HFV.out.1, HFV.out.2.1, HFV.out.2.2, rfl, rfl, HCF.out, ⟨fun h => (by cases h), fun h => absurd h HNO.out⟩, rfl⟩))⟩⟩)
        · go_wp2_with fail
          go_ret2
          (first | exact ⟨HB.out, false, 0, rfl, .inr (.inr (.inr ⟨hok, HFV.out.1, HFV.out.2.1, HFV.out.2.2, rfl, rfl, HCF.out, ⟨fun h => (by cases h), fun h => absurd h HNO.out⟩, rfl⟩))⟩ | exact ⟨HB.out, .inl ⟨0, rfl, .inr (.inr (.inr ⟨hok, HFV.out.1, HFV.out.2.1, HFV.out.2.2, rfl, rfl, HCF.out, ⟨fun h => (by cases h), fun h => absurd h HNO.out⟩, rfl⟩))⟩⟩)
      · go_wp2_with fail
        go_ret2
        (first | exact ⟨HB.out, false, 0, rfl, .inr (.inr (.inr ⟨hok, HFV.out.1, HFV.out.2.1, HFV.out.2.2, rfl, rfl, HCF.out, ⟨fun h => (by cases h), fun h => absurd h HNO.out⟩, rfl⟩))⟩ | exact ⟨HB.out, .inl ⟨0, rfl, .inr (.inr (.inr ⟨hok, HFV.out.1, HFV.out.2.1, HFV.out.2.2, rfl, rfl, HCF.out, ⟨fun h => (by cases h), fun h => absurd h HNO.out⟩, rfl⟩))⟩⟩)
  by_cases had : a = va ∧ d = vd
  case neg =>
    have HNO : Hid (¬ ChkR p va vd X Y) := fun h => had (by
      have := h.rgt
      rw [HAD.out] at this
      exact ⟨(three this).1, (three this).2.1⟩)
    have hif : ∀ (α : Type) (x y : α), (if a = va then if d = vd then x else y else y) = y := fun α x y => by
      by_cases h1 : a = va
      · rw [if_pos h1, if_neg (fun h2 => had ⟨h1, h2⟩)]
      · rw [if_neg h1]
    have HIF := Lib.hid hif
    clear hif had
    refine wp_region_each (fun L A W => ∃ (v : Nat → Value), A = ⟨#[_, _, _, _, _, _, _, _, _, _, _, _, _, v 13, _, _, _, _, _, _, _, _, _, _, _, _, _, _, _, _, _, _, _, _, _, _, _, _, _, _, _, _, _, _, _, _, _, _, _, _, _, _, _, _, _, _, _, _, _, _, _, _, _, _, _, _, _, _, _, _, _, _, _, _, _, _, _, _, _, _, _, _, _, v 83, v 84, v 85, v 86, v 87, v 88, v 89, v 90, v 91, v 92, v 93, v 94, v 95, v 96, v 97, v 98, v 99, v 100, v 101, v 102, v 103, _, _, _, _, _, _, _, _, _, _], []⟩ ∧ CkDR xb kb ab p.n p.m p.cc p.rc yc p.ca p.ra ya a d va vd wc L v W) (by kernel_rfl) (by kernel_rfl) ⟨fun jz => if jz = 83 then undef else if jz = 84 then undef else if jz = 85 then undef else if jz = 86 then undef else if jz = 87 then undef else if jz = 88 then undef else if jz = 89 then undef else if jz = 90 then undef else if jz = 91 then undef else if jz = 92 then undef else if jz = 93 then undef else if jz = 94 then undef else if jz = 95 then undef else if jz = 96 then undef else if jz = 97 then undef else if jz = 98 then undef else if jz = 99 then undef else if jz = 100 then undef else if jz = 101 then undef else if jz = 102 then undef else if jz = 103 then undef else if jz = 13 then undef else undef, rfl, ⟨Below.drew (Below.refl _ _), Had.none, Had.none, Had.none, Had.none, Had.none, Had.none, Had.none, Had.none, Had.none, Had.none, Had.none, Had.none, Had.none, Had.none, Had.none, Had.none, Had.none, Had.none, Had.none, Had.none, Had.none, Had.none, Had.none, Had.none, Had.none, Had.none, Had.none, Had.none, Had.none, Had.none, Had.none, Had.none, Had.none, Had.none, Had.none, Had.none, Had.none, Had.none, Had.none, Had.none, Had.none, Had.none⟩⟩ (rs := [0, 1, 2, 3, 4, 5, 6, 7, 8, 9, 10, 11, 12, 13, 14, 15, 16, 17, 18, 19, 20, 21]) (by kernel_rfl) ?_ ?_
    · refine EachOf.cons [] rfl (by kernel_rfl) ?_ ?_
      · rintro L A W ⟨v, rfl, hR⟩ hi hw K hK
        have q0 := (hR.st.cell (p := ⟨xb, 0, none⟩) LP0.out.2).trans LP0.out.1
        have q1 := (hR.st.cell (p := ⟨xb, 1, none⟩) LP1.out.2).trans LP1.out.1
        go_simp
        refine hK.out _ _ ?_
        exact ⟨(fun jz => if jz = 83 then .agg #[.slice p.ca p.n p.cc, .slice p.ra p.m p.rc] else v jz), rfl, ⟨hR.st, (fun _ => rfl), hR.f1.keep rfl, hR.f2.keep rfl, hR.f3.keep rfl, hR.f4.keep rfl, hR.f5.keep rfl, hR.f6.keep rfl, hR.f7.keep rfl, hR.f8.keep rfl, hR.f9.keep rfl, hR.f10.keep rfl, hR.f11.keep rfl, hR.f12.keep rfl, hR.f13.keep rfl, hR.f14.keep rfl, hR.f15.keep rfl, hR.f16.keep rfl, hR.f17.keep rfl, hR.f18.keep rfl, hR.f19.keep rfl, hR.f20.keep rfl, hR.f21.keep rfl, hR.w2.keepM rfl (fun h j hj => upd_on (h j hj)), hR.w3.keepM rfl (fun h j hj => upd_on (h j hj)), hR.w4.keepM rfl (fun h j hj => upd_on (h j hj)), hR.w5.keepM rfl (fun h j hj => upd_on (h j hj)), hR.w6.keepM rfl (fun h j hj => upd_on (h j hj)), hR.w7.keepM rfl (fun h j hj => upd_on (h j hj)), hR.w8.keepM rfl (fun h j hj => upd_on (h j hj)), hR.w9.keepM rfl (fun h j hj => upd_on (h j hj)), hR.w10.keepM rfl (fun h j hj => upd_on (h j hj)), hR.w11.keepM rfl (fun h j hj => upd_on (h j hj)), hR.w12.keepM rfl (fun h j hj => upd_on (h j hj)), hR.w13.keepM rfl (fun h j hj => upd_on (h j hj)), hR.w14.keepM rfl (fun h j hj => upd_on (h j hj)), hR.w15.keepM rfl (fun h j hj => upd_on (h j hj)), hR.w16.keepM rfl (fun h j hj => upd_on (h j hj)), hR.w17.keepM rfl (fun h j hj => upd_on (h j hj)), hR.w18.keepM rfl (fun h j hj => upd_on (h j hj)), hR.w19.keepM rfl (fun h j hj => upd_on (h j hj)), hR.w20.keepM rfl (fun h j hj => upd_on (h j hj)), hR.w21.keepM rfl (fun h j hj => upd_on (h j hj))⟩⟩
      refine EachOf.cons [] rfl (by kernel_rfl) ?_ ?_
      · rintro L A W ⟨v, rfl, hR⟩ hi hw K hK
        go_simp
        refine hK.out _ _ ?_
        exact ⟨(fun jz => if jz = 84 then .pointer (some ⟨kb, 3, none⟩) else v jz), rfl, ⟨hR.st, hR.f0.keep rfl, (fun _ => rfl), hR.f2.keep rfl, hR.f3.keep rfl, hR.f4.keep rfl, hR.f5.keep rfl, hR.f6.keep rfl, hR.f7.keep rfl, hR.f8.keep rfl, hR.f9.keep rfl, hR.f10.keep rfl, hR.f11.keep rfl, hR.f12.keep rfl, hR.f13.keep rfl, hR.f14.keep rfl, hR.f15.keep rfl, hR.f16.keep rfl, hR.f17.keep rfl, hR.f18.keep rfl, hR.f19.keep rfl, hR.f20.keep rfl, hR.f21.keep rfl, hR.w2.keepM rfl (fun h j hj => upd_on (h j hj)), hR.w3.keepM rfl (fun h j hj => upd_on (h j hj)), hR.w4.keepM rfl (fun h j hj => upd_on (h j hj)), hR.w5.keepM rfl (fun h j hj => upd_on (h j hj)), hR.w6.keepM rfl (fun h j hj => upd_on (h j hj)), hR.w7.keepM rfl (fun h j hj => upd_on (h j hj)), hR.w8.keepM rfl (fun h j hj => upd_on (h j hj)), hR.w9.keepM rfl (fun h j hj => upd_on (h j hj)), hR.w10.keepM rfl (fun h j hj => upd_on (h j hj)), hR.w11.keepM rfl (fun h j hj => upd_on (h j hj)), hR.w12.keepM rfl (fun h j hj => upd_on (h j hj)), hR.w13.keepM rfl (fun h j hj => upd_on (h j hj)), hR.w14.keepM rfl (fun h j hj => upd_on (h j hj)), hR.w15.keepM rfl (fun h j hj => upd_on (h j hj)), hR.w16.keepM rfl (fun h j hj => upd_on (h j hj)), hR.w17.keepM rfl (fun h j hj => upd_on (h j hj)), hR.w18.keepM rfl (fun h j hj => upd_on (h j hj)), hR.w19.keepM rfl (fun h j hj => upd_on (h j hj)), hR.w20.keepM rfl (fun h j hj => upd_on (h j hj)), hR.w21.keepM rfl (fun h j hj => upd_on (h j hj))⟩⟩
      refine EachOf.cons [1] rfl (by kernel_rfl) ?_ ?_
      · rintro L A W ⟨v, rfl, hR⟩ hi hw K hK
        have e1 := hR.f1 (hw 1 (by simp))
        simp only [e1]
        clear e1
        have q0 := (hR.st.cell (p := ⟨kb, 3, none⟩) LY.out.2).trans LY.out.1
        go_simp
        refine hK.out _ _ ?_
        exact ⟨(fun jz => if jz = 84 then .pointer (some ⟨kb, 3, none⟩) else if jz = 85 then .slice ya p.m yc else v jz), rfl, ⟨hR.st, hR.f0.keep rfl, (fun _ => rfl), (fun _ => rfl), hR.f3.keep rfl, hR.f4.keep rfl, hR.f5.keep rfl, hR.f6.keep rfl, hR.f7.keep rfl, hR.f8.keep rfl, hR.f9.keep rfl, hR.f10.keep rfl, hR.f11.keep rfl, hR.f12.keep rfl, hR.f13.keep rfl, hR.f14.keep rfl, hR.f15.keep rfl, hR.f16.keep rfl, hR.f17.keep rfl, hR.f18.keep rfl, hR.f19.keep rfl, hR.f20.keep rfl, hR.f21.keep rfl, (fun _ j hj => upd_on (hw j hj)), hR.w3.keepM rfl (fun h j hj => upd_on (h j hj)), hR.w4.keepM rfl (fun h j hj => upd_on (h j hj)), hR.w5.keepM rfl (fun h j hj => upd_on (h j hj)), hR.w6.keepM rfl (fun h j hj => upd_on (h j hj)), hR.w7.keepM rfl (fun h j hj => upd_on (h j hj)), hR.w8.keepM rfl (fun h j hj => upd_on (h j hj)), hR.w9.keepM rfl (fun h j hj => upd_on (h j hj)), hR.w10.keepM rfl (fun h j hj => upd_on (h j hj)), hR.w11.keepM rfl (fun h j hj => upd_on (h j hj)), hR.w12.keepM rfl (fun h j hj => upd_on (h j hj)), hR.w13.keepM rfl (fun h j hj => upd_on (h j hj)), hR.w14.keepM rfl (fun h j hj => upd_on (h j hj)), hR.w15.keepM rfl (fun h j hj => upd_on (h j hj)), hR.w16.keepM rfl (fun h j hj => upd_on (h j hj)), hR.w17.keepM rfl (fun h j hj => upd_on (h j hj)), hR.w18.keepM rfl (fun h j hj => upd_on (h j hj)), hR.w19.keepM rfl (fun h j hj => upd_on (h j hj)), hR.w20.keepM rfl (fun h j hj => upd_on (h j hj)), hR.w21.keepM rfl (fun h j hj => upd_on (h j hj))⟩⟩
      refine EachOf.cons [0, 2] rfl (by kernel_rfl) ?_ ?_
      · rintro L A W ⟨v, rfl, hR⟩ hi hw K hK
        have e0 := hR.f0 (hw 0 (by simp))
        have e2 := hR.f2 (hw 2 (by simp))
        simp only [e0, e2]
        clear e0 e2
        go_simp
        go_at_call 47
        (with_reducible refine (((C1 W (hR.st))).out.mono ?_))
        rintro e w2 ⟨rfl, hb⟩
        go_simp
        refine hK.out _ _ ?_
        exact ⟨(fun jz => if jz = 83 then .agg #[.slice p.ca p.n p.cc, .slice p.ra p.m p.rc] else if jz = 85 then .slice ya p.m yc else if jz = 86 then .bool true else v jz), rfl, ⟨below_on hR.st hb, (fun _ => rfl), hR.f1.keep rfl, (fun _ => rfl), (fun _ => rfl), hR.f4.keep rfl, hR.f5.keep rfl, hR.f6.keep rfl, hR.f7.keep rfl, hR.f8.keep rfl, hR.f9.keep rfl, hR.f10.keep rfl, hR.f11.keep rfl, hR.f12.keep rfl, hR.f13.keep rfl, hR.f14.keep rfl, hR.f15.keep rfl, hR.f16.keep rfl, hR.f17.keep rfl, hR.f18.keep rfl, hR.f19.keep rfl, hR.f20.keep rfl, hR.f21.keep rfl, hR.w2.keepM rfl (fun h j hj => upd_on (h j hj)), (fun _ j hj => upd_on (hw j hj)), hR.w4.keepM rfl (fun h j hj => upd_on (h j hj)), hR.w5.keepM rfl (fun h j hj => upd_on (h j hj)), hR.w6.keepM rfl (fun h j hj => upd_on (h j hj)), hR.w7.keepM rfl (fun h j hj => upd_on (h j hj)), hR.w8.keepM rfl (fun h j hj => upd_on (h j hj)), hR.w9.keepM rfl (fun h j hj => upd_on (h j hj)), hR.w10.keepM rfl (fun h j hj => upd_on (h j hj)), hR.w11.keepM rfl (fun h j hj => upd_on (h j hj)), hR.w12.keepM rfl (fun h j hj => upd_on (h j hj)), hR.w13.keepM rfl (fun h j hj => upd_on (h j hj)), hR.w14.keepM rfl (fun h j hj => upd_on (h j hj)), hR.w15.keepM rfl (fun h j hj => upd_on (h j hj)), hR.w16.keepM rfl (fun h j hj => upd_on (h j hj)), hR.w17.keepM rfl (fun h j hj => upd_on (h j hj)), hR.w18.keepM rfl (fun h j hj => upd_on (h j hj)), hR.w19.keepM rfl (fun h j hj => upd_on (h j hj)), hR.w20.keepM rfl (fun h j hj => upd_on (h j hj)), hR.w21.keepM rfl (fun h j hj => upd_on (h j hj))⟩⟩
      refine EachOf.cons [3] rfl (by kernel_rfl) ?_ ?_
      · rintro L A W ⟨v, rfl, hR⟩ hi hw K hK
        have e3 := hR.f3 (hw 3 (by simp))
        simp only [e3]
        clear e3
        go_simp
        refine hK.out _ _ ?_
        exact ⟨(fun jz => if jz = 86 then .bool true else if jz = 87 then .bool true else v jz), rfl, ⟨hR.st, hR.f0.keep rfl, hR.f1.keep rfl, hR.f2.keep rfl, (fun _ => rfl), (fun _ => rfl), hR.f5.keep rfl, hR.f6.keep rfl, hR.f7.keep rfl, hR.f8.keep rfl, hR.f9.keep rfl, hR.f10.keep rfl, hR.f11.keep rfl, hR.f12.keep rfl, hR.f13.keep rfl, hR.f14.keep rfl, hR.f15.keep rfl, hR.f16.keep rfl, hR.f17.keep rfl, hR.f18.keep rfl, hR.f19.keep rfl, hR.f20.keep rfl, hR.f21.keep rfl, hR.w2.keepM rfl (fun h j hj => upd_on (h j hj)), hR.w3.keepM rfl (fun h j hj => upd_on (h j hj)), (fun _ j hj => upd_on (hw j hj)), hR.w5.keepM rfl (fun h j hj => upd_on (h j hj)), hR.w6.keepM rfl (fun h j hj => upd_on (h j hj)), hR.w7.keepM rfl (fun h j hj => upd_on (h j hj)), hR.w8.keepM rfl (fun h j hj => upd_on (h j hj)), hR.w9.keepM rfl (fun h j hj => upd_on (h j hj)), hR.w10.keepM rfl (fun h j hj => upd_on (h j hj)), hR.w11.keepM rfl (fun h j hj => upd_on (h j hj)), hR.w12.keepM rfl (fun h j hj => upd_on (h j hj)), hR.w13.keepM rfl (fun h j hj => upd_on (h j hj)), hR.w14.keepM rfl (fun h j hj => upd_on (h j hj)), hR.w15.keepM rfl (fun h j hj => upd_on (h j hj)), hR.w16.keepM rfl (fun h j hj => upd_on (h j hj)), hR.w17.keepM rfl (fun h j hj => upd_on (h j hj)), hR.w18.keepM rfl (fun h j hj => upd_on (h j hj)), hR.w19.keepM rfl (fun h j hj => upd_on (h j hj)), hR.w20.keepM rfl (fun h j hj => upd_on (h j hj)), hR.w21.keepM rfl (fun h j hj => upd_on (h j hj))⟩⟩
      refine EachOf.cons [4] rfl (by kernel_rfl) ?_ ?_
      · rintro L A W ⟨v, rfl, hR⟩ hi hw K hK
        have e4 := hR.f4 (hw 4 (by simp))
        simp only [e4]
        clear e4
        go_simp
        refine hK.out _ _ ?_
        exact ⟨(fun jz => if jz = 87 then .bool true else if jz = 88 then .slice (some ⟨ab, 0, none⟩) (p.n + 1) (p.n + 1) else v jz), rfl, ⟨hR.st, hR.f0.keep rfl, hR.f1.keep rfl, hR.f2.keep rfl, hR.f3.keep rfl, (fun _ => rfl), (fun _ => rfl), hR.f6.keep rfl, hR.f7.keep rfl, hR.f8.keep rfl, hR.f9.keep rfl, hR.f10.keep rfl, hR.f11.keep rfl, hR.f12.keep rfl, hR.f13.keep rfl, hR.f14.keep rfl, hR.f15.keep rfl, hR.f16.keep rfl, hR.f17.keep rfl, hR.f18.keep rfl, hR.f19.keep rfl, hR.f20.keep rfl, hR.f21.keep rfl, hR.w2.keepM rfl (fun h j hj => upd_on (h j hj)), hR.w3.keepM rfl (fun h j hj => upd_on (h j hj)), hR.w4.keepM rfl (fun h j hj => upd_on (h j hj)), (fun _ j hj => upd_on (hw j hj)), hR.w6.keepM rfl (fun h j hj => upd_on (h j hj)), hR.w7.keepM rfl (fun h j hj => upd_on (h j hj)), hR.w8.keepM rfl (fun h j hj => upd_on (h j hj)), hR.w9.keepM rfl (fun h j hj => upd_on (h j hj)), hR.w10.keepM rfl (fun h j hj => upd_on (h j hj)), hR.w11.keepM rfl (fun h j hj => upd_on (h j hj)), hR.w12.keepM rfl (fun h j hj => upd_on (h j hj)), hR.w13.keepM rfl (fun h j hj => upd_on (h j hj)), hR.w14.keepM rfl (fun h j hj => upd_on (h j hj)), hR.w15.keepM rfl (fun h j hj => upd_on (h j hj)), hR.w16.keepM rfl (fun h j hj => upd_on (h j hj)), hR.w17.keepM rfl (fun h j hj => upd_on (h j hj)), hR.w18.keepM rfl (fun h j hj => upd_on (h j hj)), hR.w19.keepM rfl (fun h j hj => upd_on (h j hj)), hR.w20.keepM rfl (fun h j hj => upd_on (h j hj)), hR.w21.keepM rfl (fun h j hj => upd_on (h j hj))⟩⟩
      refine EachOf.cons [4] rfl (by kernel_rfl) ?_ ?_
      · rintro L A W ⟨v, rfl, hR⟩ hi hw K hK
        have e4 := hR.f4 (hw 4 (by simp))
        simp only [e4]
        clear e4
        go_simp
        refine hK.out _ _ ?_
        exact ⟨(fun jz => if jz = 87 then .bool true else if jz = 89 then .pointer (some ⟨xb, 0, none⟩) else v jz), rfl, ⟨hR.st, hR.f0.keep rfl, hR.f1.keep rfl, hR.f2.keep rfl, hR.f3.keep rfl, (fun _ => rfl), hR.f5.keep rfl, (fun _ => rfl), hR.f7.keep rfl, hR.f8.keep rfl, hR.f9.keep rfl, hR.f10.keep rfl, hR.f11.keep rfl, hR.f12.keep rfl, hR.f13.keep rfl, hR.f14.keep rfl, hR.f15.keep rfl, hR.f16.keep rfl, hR.f17.keep rfl, hR.f18.keep rfl, hR.f19.keep rfl, hR.f20.keep rfl, hR.f21.keep rfl, hR.w2.keepM rfl (fun h j hj => upd_on (h j hj)), hR.w3.keepM rfl (fun h j hj => upd_on (h j hj)), hR.w4.keepM rfl (fun h j hj => upd_on (h j hj)), hR.w5.keepM rfl (fun h j hj => upd_on (h j hj)), (fun _ j hj => upd_on (hw j hj)), hR.w7.keepM rfl (fun h j hj => upd_on (h j hj)), hR.w8.keepM rfl (fun h j hj => upd_on (h j hj)), hR.w9.keepM rfl (fun h j hj => upd_on (h j hj)), hR.w10.keepM rfl (fun h j hj => upd_on (h j hj)), hR.w11.keepM rfl (fun h j hj => upd_on (h j hj)), hR.w12.keepM rfl (fun h j hj => upd_on (h j hj)), hR.w13.keepM rfl (fun h j hj => upd_on (h j hj)), hR.w14.keepM rfl (fun h j hj => upd_on (h j hj)), hR.w15.keepM rfl (fun h j hj => upd_on (h j hj)), hR.w16.keepM rfl (fun h j hj => upd_on (h j hj)), hR.w17.keepM rfl (fun h j hj => upd_on (h j hj)), hR.w18.keepM rfl (fun h j hj => upd_on (h j hj)), hR.w19.keepM rfl (fun h j hj => upd_on (h j hj)), hR.w20.keepM rfl (fun h j hj => upd_on (h j hj)), hR.w21.keepM rfl (fun h j hj => upd_on (h j hj))⟩⟩
      refine EachOf.cons [4, 6] rfl (by kernel_rfl) ?_ ?_
      · rintro L A W ⟨v, rfl, hR⟩ hi hw K hK
        have e6 := hR.f6 (hw 6 (by simp))
        have e4 := hR.f4 (hw 4 (by simp))
        simp only [e6, e4]
        clear e6 e4
        have q0 := (hR.st.cell (p := ⟨xb, 0, none⟩) LP0.out.2).trans LP0.out.1
        go_simp
        refine hK.out _ _ ?_
        exact ⟨(fun jz => if jz = 89 then .pointer (some ⟨xb, 0, none⟩) else if jz = 87 then .bool true else if jz = 90 then .slice p.ca p.n p.cc else v jz), rfl, ⟨hR.st, hR.f0.keep rfl, hR.f1.keep rfl, hR.f2.keep rfl, hR.f3.keep rfl, (fun _ => rfl), hR.f5.keep rfl, (fun _ => rfl), (fun _ => rfl), hR.f8.keep rfl, hR.f9.keep rfl, hR.f10.keep rfl, hR.f11.keep rfl, hR.f12.keep rfl, hR.f13.keep rfl, hR.f14.keep rfl, hR.f15.keep rfl, hR.f16.keep rfl, hR.f17.keep rfl, hR.f18.keep rfl, hR.f19.keep rfl, hR.f20.keep rfl, hR.f21.keep rfl, hR.w2.keepM rfl (fun h j hj => upd_on (h j hj)), hR.w3.keepM rfl (fun h j hj => upd_on (h j hj)), hR.w4.keepM rfl (fun h j hj => upd_on (h j hj)), hR.w5.keepM rfl (fun h j hj => upd_on (h j hj)), hR.w6.keepM rfl (fun h j hj => upd_on (h j hj)), (fun _ j hj => upd_on (hw j hj)), hR.w8.keepM rfl (fun h j hj => upd_on (h j hj)), hR.w9.keepM rfl (fun h j hj => upd_on (h j hj)), hR.w10.keepM rfl (fun h j hj => upd_on (h j hj)), hR.w11.keepM rfl (fun h j hj => upd_on (h j hj)), hR.w12.keepM rfl (fun h j hj => upd_on (h j hj)), hR.w13.keepM rfl (fun h j hj => upd_on (h j hj)), hR.w14.keepM rfl (fun h j hj => upd_on (h j hj)), hR.w15.keepM rfl (fun h j hj => upd_on (h j hj)), hR.w16.keepM rfl (fun h j hj => upd_on (h j hj)), hR.w17.keepM rfl (fun h j hj => upd_on (h j hj)), hR.w18.keepM rfl (fun h j hj => upd_on (h j hj)), hR.w19.keepM rfl (fun h j hj => upd_on (h j hj)), hR.w20.keepM rfl (fun h j hj => upd_on (h j hj)), hR.w21.keepM rfl (fun h j hj => upd_on (h j hj))⟩⟩
      refine EachOf.cons [4, 5, 7] rfl (by kernel_rfl) ?_ ?_
      · rintro L A W ⟨v, rfl, hR⟩ hi hw K hK
        have e5 := hR.f5 (hw 5 (by simp))
        have e7 := hR.f7 (hw 7 (by simp))
        have e4 := hR.f4 (hw 4 (by simp))
        simp only [e5, e7, e4]
        clear e5 e7 e4
        go_simp
        go_at_call 48
        (with_reducible refine (((C2 W (hR.st))).out.mono ?_))
        rintro e w2 ⟨rfl, hb⟩
        go_simp
        refine hK.out _ _ ?_
        exact ⟨(fun jz => if jz = 88 then .slice (some ⟨ab, 0, none⟩) (p.n + 1) (p.n + 1) else if jz = 90 then .slice p.ca p.n p.cc else if jz = 87 then .bool true else if jz = 91 then .bool true else v jz), rfl, ⟨below_on hR.st hb, hR.f0.keep rfl, hR.f1.keep rfl, hR.f2.keep rfl, hR.f3.keep rfl, (fun _ => rfl), (fun _ => rfl), hR.f6.keep rfl, (fun _ => rfl), (fun _ => rfl), hR.f9.keep rfl, hR.f10.keep rfl, hR.f11.keep rfl, hR.f12.keep rfl, hR.f13.keep rfl, hR.f14.keep rfl, hR.f15.keep rfl, hR.f16.keep rfl, hR.f17.keep rfl, hR.f18.keep rfl, hR.f19.keep rfl, hR.f20.keep rfl, hR.f21.keep rfl, hR.w2.keepM rfl (fun h j hj => upd_on (h j hj)), hR.w3.keepM rfl (fun h j hj => upd_on (h j hj)), hR.w4.keepM rfl (fun h j hj => upd_on (h j hj)), hR.w5.keepM rfl (fun h j hj => upd_on (h j hj)), hR.w6.keepM rfl (fun h j hj => upd_on (h j hj)), hR.w7.keepM rfl (fun h j hj => upd_on (h j hj)), (fun _ j hj => upd_on (hw j hj)), hR.w9.keepM rfl (fun h j hj => upd_on (h j hj)), hR.w10.keepM rfl (fun h j hj => upd_on (h j hj)), hR.w11.keepM rfl (fun h j hj => upd_on (h j hj)), hR.w12.keepM rfl (fun h j hj => upd_on (h j hj)), hR.w13.keepM rfl (fun h j hj => upd_on (h j hj)), hR.w14.keepM rfl (fun h j hj => upd_on (h j hj)), hR.w15.keepM rfl (fun h j hj => upd_on (h j hj)), hR.w16.keepM rfl (fun h j hj => upd_on (h j hj)), hR.w17.keepM rfl (fun h j hj => upd_on (h j hj)), hR.w18.keepM rfl (fun h j hj => upd_on (h j hj)), hR.w19.keepM rfl (fun h j hj => upd_on (h j hj)), hR.w20.keepM rfl (fun h j hj => upd_on (h j hj)), hR.w21.keepM rfl (fun h j hj => upd_on (h j hj))⟩⟩
      refine EachOf.cons [4, 8] rfl (by kernel_rfl) ?_ ?_
      · rintro L A W ⟨v, rfl, hR⟩ hi hw K hK
        have e4 := hR.f4 (hw 4 (by simp))
        have e8 := hR.f8 (hw 8 (by simp))
        simp only [e4, e8]
        clear e4 e8
        go_simp
        refine hK.out _ _ ?_
        exact ⟨(fun jz => if jz = 87 then .bool true else if jz = 91 then .bool true else if jz = 92 then .bool true else v jz), rfl, ⟨hR.st, hR.f0.keep rfl, hR.f1.keep rfl, hR.f2.keep rfl, hR.f3.keep rfl, (fun _ => rfl), hR.f5.keep rfl, hR.f6.keep rfl, hR.f7.keep rfl, (fun _ => rfl), (fun _ => rfl), hR.f10.keep rfl, hR.f11.keep rfl, hR.f12.keep rfl, hR.f13.keep rfl, hR.f14.keep rfl, hR.f15.keep rfl, hR.f16.keep rfl, hR.f17.keep rfl, hR.f18.keep rfl, hR.f19.keep rfl, hR.f20.keep rfl, hR.f21.keep rfl, hR.w2.keepM rfl (fun h j hj => upd_on (h j hj)), hR.w3.keepM rfl (fun h j hj => upd_on (h j hj)), hR.w4.keepM rfl (fun h j hj => upd_on (h j hj)), hR.w5.keepM rfl (fun h j hj => upd_on (h j hj)), hR.w6.keepM rfl (fun h j hj => upd_on (h j hj)), hR.w7.keepM rfl (fun h j hj => upd_on (h j hj)), hR.w8.keepM rfl (fun h j hj => upd_on (h j hj)), (fun _ j hj => upd_on (hw j hj)), hR.w10.keepM rfl (fun h j hj => upd_on (h j hj)), hR.w11.keepM rfl (fun h j hj => upd_on (h j hj)), hR.w12.keepM rfl (fun h j hj => upd_on (h j hj)), hR.w13.keepM rfl (fun h j hj => upd_on (h j hj)), hR.w14.keepM rfl (fun h j hj => upd_on (h j hj)), hR.w15.keepM rfl (fun h j hj => upd_on (h j hj)), hR.w16.keepM rfl (fun h j hj => upd_on (h j hj)), hR.w17.keepM rfl (fun h j hj => upd_on (h j hj)), hR.w18.keepM rfl (fun h j hj => upd_on (h j hj)), hR.w19.keepM rfl (fun h j hj => upd_on (h j hj)), hR.w20.keepM rfl (fun h j hj => upd_on (h j hj)), hR.w21.keepM rfl (fun h j hj => upd_on (h j hj))⟩⟩
      refine EachOf.cons [9] rfl (by kernel_rfl) ?_ ?_
      · rintro L A W ⟨v, rfl, hR⟩ hi hw K hK
        have e9 := hR.f9 (hw 9 (by simp))
        simp only [e9]
        clear e9
        go_simp
        refine hK.out _ _ ?_
        exact ⟨(fun jz => if jz = 92 then .bool true else if jz = 93 then .bool true else v jz), rfl, ⟨hR.st, hR.f0.keep rfl, hR.f1.keep rfl, hR.f2.keep rfl, hR.f3.keep rfl, hR.f4.keep rfl, hR.f5.keep rfl, hR.f6.keep rfl, hR.f7.keep rfl, hR.f8.keep rfl, (fun _ => rfl), (fun _ => rfl), hR.f11.keep rfl, hR.f12.keep rfl, hR.f13.keep rfl, hR.f14.keep rfl, hR.f15.keep rfl, hR.f16.keep rfl, hR.f17.keep rfl, hR.f18.keep rfl, hR.f19.keep rfl, hR.f20.keep rfl, hR.f21.keep rfl, hR.w2.keepM rfl (fun h j hj => upd_on (h j hj)), hR.w3.keepM rfl (fun h j hj => upd_on (h j hj)), hR.w4.keepM rfl (fun h j hj => upd_on (h j hj)), hR.w5.keepM rfl (fun h j hj => upd_on (h j hj)), hR.w6.keepM rfl (fun h j hj => upd_on (h j hj)), hR.w7.keepM rfl (fun h j hj => upd_on (h j hj)), hR.w8.keepM rfl (fun h j hj => upd_on (h j hj)), hR.w9.keepM rfl (fun h j hj => upd_on (h j hj)), (fun _ j hj => upd_on (hw j hj)), hR.w11.keepM rfl (fun h j hj => upd_on (h j hj)), hR.w12.keepM rfl (fun h j hj => upd_on (h j hj)), hR.w13.keepM rfl (fun h j hj => upd_on (h j hj)), hR.w14.keepM rfl (fun h j hj => upd_on (h j hj)), hR.w15.keepM rfl (fun h j hj => upd_on (h j hj)), hR.w16.keepM rfl (fun h j hj => upd_on (h j hj)), hR.w17.keepM rfl (fun h j hj => upd_on (h j hj)), hR.w18.keepM rfl (fun h j hj => upd_on (h j hj)), hR.w19.keepM rfl (fun h j hj => upd_on (h j hj)), hR.w20.keepM rfl (fun h j hj => upd_on (h j hj)), hR.w21.keepM rfl (fun h j hj => upd_on (h j hj))⟩⟩
      refine EachOf.cons [10] rfl (by kernel_rfl) ?_ ?_
      · rintro L A W ⟨v, rfl, hR⟩ hi hw K hK
        have e10 := hR.f10 (hw 10 (by simp))
        simp only [e10]
        clear e10
        go_simp
        refine hK.out _ _ ?_
        exact ⟨(fun jz => if jz = 93 then .bool true else if jz = 94 then .slice (some ⟨ab, 0, none⟩) (p.n + 1) (p.n + 1) else v jz), rfl, ⟨hR.st, hR.f0.keep rfl, hR.f1.keep rfl, hR.f2.keep rfl, hR.f3.keep rfl, hR.f4.keep rfl, hR.f5.keep rfl, hR.f6.keep rfl, hR.f7.keep rfl, hR.f8.keep rfl, hR.f9.keep rfl, (fun _ => rfl), (fun _ => rfl), hR.f12.keep rfl, hR.f13.keep rfl, hR.f14.keep rfl, hR.f15.keep rfl, hR.f16.keep rfl, hR.f17.keep rfl, hR.f18.keep rfl, hR.f19.keep rfl, hR.f20.keep rfl, hR.f21.keep rfl, hR.w2.keepM rfl (fun h j hj => upd_on (h j hj)), hR.w3.keepM rfl (fun h j hj => upd_on (h j hj)), hR.w4.keepM rfl (fun h j hj => upd_on (h j hj)), hR.w5.keepM rfl (fun h j hj => upd_on (h j hj)), hR.w6.keepM rfl (fun h j hj => upd_on (h j hj)), hR.w7.keepM rfl (fun h j hj => upd_on (h j hj)), hR.w8.keepM rfl (fun h j hj => upd_on (h j hj)), hR.w9.keepM rfl (fun h j hj => upd_on (h j hj)), hR.w10.keepM rfl (fun h j hj => upd_on (h j hj)), (fun _ j hj => upd_on (hw j hj)), hR.w12.keepM rfl (fun h j hj => upd_on (h j hj)), hR.w13.keepM rfl (fun h j hj => upd_on (h j hj)), hR.w14.keepM rfl (fun h j hj => upd_on (h j hj)), hR.w15.keepM rfl (fun h j hj => upd_on (h j hj)), hR.w16.keepM rfl (fun h j hj => upd_on (h j hj)), hR.w17.keepM rfl (fun h j hj => upd_on (h j hj)), hR.w18.keepM rfl (fun h j hj => upd_on (h j hj)), hR.w19.keepM rfl (fun h j hj => upd_on (h j hj)), hR.w20.keepM rfl (fun h j hj => upd_on (h j hj)), hR.w21.keepM rfl (fun h j hj => upd_on (h j hj))⟩⟩
      refine EachOf.cons [10] rfl (by kernel_rfl) ?_ ?_
      · rintro L A W ⟨v, rfl, hR⟩ hi hw K hK
        have e10 := hR.f10 (hw 10 (by simp))
        simp only [e10]
        clear e10
        go_simp
        refine hK.out _ _ ?_
        exact ⟨(fun jz => if jz = 93 then .bool true else if jz = 95 then .pointer (some ⟨xb, 0, none⟩) else v jz), rfl, ⟨hR.st, hR.f0.keep rfl, hR.f1.keep rfl, hR.f2.keep rfl, hR.f3.keep rfl, hR.f4.keep rfl, hR.f5.keep rfl, hR.f6.keep rfl, hR.f7.keep rfl, hR.f8.keep rfl, hR.f9.keep rfl, (fun _ => rfl), hR.f11.keep rfl, (fun _ => rfl), hR.f13.keep rfl, hR.f14.keep rfl, hR.f15.keep rfl, hR.f16.keep rfl, hR.f17.keep rfl, hR.f18.keep rfl, hR.f19.keep rfl, hR.f20.keep rfl, hR.f21.keep rfl, hR.w2.keepM rfl (fun h j hj => upd_on (h j hj)), hR.w3.keepM rfl (fun h j hj => upd_on (h j hj)), hR.w4.keepM rfl (fun h j hj => upd_on (h j hj)), hR.w5.keepM rfl (fun h j hj => upd_on (h j hj)), hR.w6.keepM rfl (fun h j hj => upd_on (h j hj)), hR.w7.keepM rfl (fun h j hj => upd_on (h j hj)), hR.w8.keepM rfl (fun h j hj => upd_on (h j hj)), hR.w9.keepM rfl (fun h j hj => upd_on (h j hj)), hR.w10.keepM rfl (fun h j hj => upd_on (h j hj)), hR.w11.keepM rfl (fun h j hj => upd_on (h j hj)), (fun _ j hj => upd_on (hw j hj)), hR.w13.keepM rfl (fun h j hj => upd_on (h j hj)), hR.w14.keepM rfl (fun h j hj => upd_on (h j hj)), hR.w15.keepM rfl (fun h j hj => upd_on (h j hj)), hR.w16.keepM rfl (fun h j hj => upd_on (h j hj)), hR.w17.keepM rfl (fun h j hj => upd_on (h j hj)), hR.w18.keepM rfl (fun h j hj => upd_on (h j hj)), hR.w19.keepM rfl (fun h j hj => upd_on (h j hj)), hR.w20.keepM rfl (fun h j hj => upd_on (h j hj)), hR.w21.keepM rfl (fun h j hj => upd_on (h j hj))⟩⟩
      refine EachOf.cons [10, 12] rfl (by kernel_rfl) ?_ ?_
      · rintro L A W ⟨v, rfl, hR⟩ hi hw K hK
        have e12 := hR.f12 (hw 12 (by simp))
        have e10 := hR.f10 (hw 10 (by simp))
        simp only [e12, e10]
        clear e12 e10
        have q0 := (hR.st.cell (p := ⟨xb, 0, none⟩) LP0.out.2).trans LP0.out.1
        go_simp
        refine hK.out _ _ ?_
        exact ⟨(fun jz => if jz = 95 then .pointer (some ⟨xb, 0, none⟩) else if jz = 93 then .bool true else if jz = 96 then .slice p.ca p.n p.cc else v jz), rfl, ⟨hR.st, hR.f0.keep rfl, hR.f1.keep rfl, hR.f2.keep rfl, hR.f3.keep rfl, hR.f4.keep rfl, hR.f5.keep rfl, hR.f6.keep rfl, hR.f7.keep rfl, hR.f8.keep rfl, hR.f9.keep rfl, (fun _ => rfl), hR.f11.keep rfl, (fun _ => rfl), (fun _ => rfl), hR.f14.keep rfl, hR.f15.keep rfl, hR.f16.keep rfl, hR.f17.keep rfl, hR.f18.keep rfl, hR.f19.keep rfl, hR.f20.keep rfl, hR.f21.keep rfl, hR.w2.keepM rfl (fun h j hj => upd_on (h j hj)), hR.w3.keepM rfl (fun h j hj => upd_on (h j hj)), hR.w4.keepM rfl (fun h j hj => upd_on (h j hj)), hR.w5.keepM rfl (fun h j hj => upd_on (h j hj)), hR.w6.keepM rfl (fun h j hj => upd_on (h j hj)), hR.w7.keepM rfl (fun h j hj => upd_on (h j hj)), hR.w8.keepM rfl (fun h j hj => upd_on (h j hj)), hR.w9.keepM rfl (fun h j hj => upd_on (h j hj)), hR.w10.keepM rfl (fun h j hj => upd_on (h j hj)), hR.w11.keepM rfl (fun h j hj => upd_on (h j hj)), hR.w12.keepM rfl (fun h j hj => upd_on (h j hj)), (fun _ j hj => upd_on (hw j hj)), hR.w14.keepM rfl (fun h j hj => upd_on (h j hj)), hR.w15.keepM rfl (fun h j hj => upd_on (h j hj)), hR.w16.keepM rfl (fun h j hj => upd_on (h j hj)), hR.w17.keepM rfl (fun h j hj => upd_on (h j hj)), hR.w18.keepM rfl (fun h j hj => upd_on (h j hj)), hR.w19.keepM rfl (fun h j hj => upd_on (h j hj)), hR.w20.keepM rfl (fun h j hj => upd_on (h j hj)), hR.w21.keepM rfl (fun h j hj => upd_on (h j hj))⟩⟩
      refine EachOf.cons [10, 13] rfl (by kernel_rfl) ?_ ?_
      · rintro L A W ⟨v, rfl, hR⟩ hi hw K hK
        have e13 := hR.f13 (hw 13 (by simp))
        have e10 := hR.f10 (hw 10 (by simp))
        simp only [e13, e10]
        clear e13 e10
        go_simp
        refine hK.out _ _ ?_
        exact ⟨(fun jz => if jz = 96 then .slice p.ca p.n p.cc else if jz = 93 then .bool true else if jz = 97 then .int .i64 (p.n : Int) else v jz), rfl, ⟨hR.st, hR.f0.keep rfl, hR.f1.keep rfl, hR.f2.keep rfl, hR.f3.keep rfl, hR.f4.keep rfl, hR.f5.keep rfl, hR.f6.keep rfl, hR.f7.keep rfl, hR.f8.keep rfl, hR.f9.keep rfl, (fun _ => rfl), hR.f11.keep rfl, hR.f12.keep rfl, (fun _ => rfl), (fun _ => rfl), hR.f15.keep rfl, hR.f16.keep rfl, hR.f17.keep rfl, hR.f18.keep rfl, hR.f19.keep rfl, hR.f20.keep rfl, hR.f21.keep rfl, hR.w2.keepM rfl (fun h j hj => upd_on (h j hj)), hR.w3.keepM rfl (fun h j hj => upd_on (h j hj)), hR.w4.keepM rfl (fun h j hj => upd_on (h j hj)), hR.w5.keepM rfl (fun h j hj => upd_on (h j hj)), hR.w6.keepM rfl (fun h j hj => upd_on (h j hj)), hR.w7.keepM rfl (fun h j hj => upd_on (h j hj)), hR.w8.keepM rfl (fun h j hj => upd_on (h j hj)), hR.w9.keepM rfl (fun h j hj => upd_on (h j hj)), hR.w10.keepM rfl (fun h j hj => upd_on (h j hj)), hR.w11.keepM rfl (fun h j hj => upd_on (h j hj)), hR.w12.keepM rfl (fun h j hj => upd_on (h j hj)), hR.w13.keepM rfl (fun h j hj => upd_on (h j hj)), (fun _ j hj => upd_on (hw j hj)), hR.w15.keepM rfl (fun h j hj => upd_on (h j hj)), hR.w16.keepM rfl (fun h j hj => upd_on (h j hj)), hR.w17.keepM rfl (fun h j hj => upd_on (h j hj)), hR.w18.keepM rfl (fun h j hj => upd_on (h j hj)), hR.w19.keepM rfl (fun h j hj => upd_on (h j hj)), hR.w20.keepM rfl (fun h j hj => upd_on (h j hj)), hR.w21.keepM rfl (fun h j hj => upd_on (h j hj))⟩⟩
      refine EachOf.cons [10, 11, 14] rfl (by kernel_rfl) ?_ ?_
      · rintro L A W ⟨v, rfl, hR⟩ hi hw K hK
        have e11 := hR.f11 (hw 11 (by simp))
        have e14 := hR.f14 (hw 14 (by simp))
        have e10 := hR.f10 (hw 10 (by simp))
        simp only [e11, e14, e10]
        clear e11 e14 e10
        go_simp
        refine hK.out _ _ ?_
        exact ⟨(fun jz => if jz = 94 then .slice (some ⟨ab, 0, none⟩) (p.n + 1) (p.n + 1) else if jz = 97 then .int .i64 (p.n : Int) else if jz = 93 then .bool true else if jz = 98 then .pointer (some ⟨ab, p.n * 2, none⟩) else v jz), rfl, ⟨hR.st, hR.f0.keep rfl, hR.f1.keep rfl, hR.f2.keep rfl, hR.f3.keep rfl, hR.f4.keep rfl, hR.f5.keep rfl, hR.f6.keep rfl, hR.f7.keep rfl, hR.f8.keep rfl, hR.f9.keep rfl, (fun _ => rfl), (fun _ => rfl), hR.f12.keep rfl, hR.f13.keep rfl, (fun _ => rfl), (fun _ => rfl), hR.f16.keep rfl, hR.f17.keep rfl, hR.f18.keep rfl, hR.f19.keep rfl, hR.f20.keep rfl, hR.f21.keep rfl, hR.w2.keepM rfl (fun h j hj => upd_on (h j hj)), hR.w3.keepM rfl (fun h j hj => upd_on (h j hj)), hR.w4.keepM rfl (fun h j hj => upd_on (h j hj)), hR.w5.keepM rfl (fun h j hj => upd_on (h j hj)), hR.w6.keepM rfl (fun h j hj => upd_on (h j hj)), hR.w7.keepM rfl (fun h j hj => upd_on (h j hj)), hR.w8.keepM rfl (fun h j hj => upd_on (h j hj)), hR.w9.keepM rfl (fun h j hj => upd_on (h j hj)), hR.w10.keepM rfl (fun h j hj => upd_on (h j hj)), hR.w11.keepM rfl (fun h j hj => upd_on (h j hj)), hR.w12.keepM rfl (fun h j hj => upd_on (h j hj)), hR.w13.keepM rfl (fun h j hj => upd_on (h j hj)), hR.w14.keepM rfl (fun h j hj => upd_on (h j hj)), (fun _ j hj => upd_on (hw j hj)), hR.w16.keepM rfl (fun h j hj => upd_on (h j hj)), hR.w17.keepM rfl (fun h j hj => upd_on (h j hj)), hR.w18.keepM rfl (fun h j hj => upd_on (h j hj)), hR.w19.keepM rfl (fun h j hj => upd_on (h j hj)), hR.w20.keepM rfl (fun h j hj => upd_on (h j hj)), hR.w21.keepM rfl (fun h j hj => upd_on (h j hj))⟩⟩
      refine EachOf.cons [10, 15] rfl (by kernel_rfl) ?_ ?_
      · rintro L A W ⟨v, rfl, hR⟩ hi hw K hK
        have e15 := hR.f15 (hw 15 (by simp))
        have e10 := hR.f10 (hw 10 (by simp))
        simp only [e15, e10]
        clear e15 e10
        have q0 := (hR.st.cell (p := ⟨ab, p.n * 2, none⟩) LT0.out.2).trans LT0.out.1
        have q1 := (hR.st.cell (p := ⟨ab, p.n * 2 + 1, none⟩) LT1.out.2).trans LT1.out.1
        go_simp
        refine hK.out _ _ ?_
        exact ⟨(fun jz => if jz = 98 then .pointer (some ⟨ab, p.n * 2, none⟩) else if jz = 93 then .bool true else if jz = 99 then .agg #[.int .i64 a, .int .i64 d] else v jz), rfl, ⟨hR.st, hR.f0.keep rfl, hR.f1.keep rfl, hR.f2.keep rfl, hR.f3.keep rfl, hR.f4.keep rfl, hR.f5.keep rfl, hR.f6.keep rfl, hR.f7.keep rfl, hR.f8.keep rfl, hR.f9.keep rfl, (fun _ => rfl), hR.f11.keep rfl, hR.f12.keep rfl, hR.f13.keep rfl, hR.f14.keep rfl, (fun _ => rfl), (fun _ => rfl), hR.f17.keep rfl, hR.f18.keep rfl, hR.f19.keep rfl, hR.f20.keep rfl, hR.f21.keep rfl, hR.w2.keepM rfl (fun h j hj => upd_on (h j hj)), hR.w3.keepM rfl (fun h j hj => upd_on (h j hj)), hR.w4.keepM rfl (fun h j hj => upd_on (h j hj)), hR.w5.keepM rfl (fun h j hj => upd_on (h j hj)), hR.w6.keepM rfl (fun h j hj => upd_on (h j hj)), hR.w7.keepM rfl (fun h j hj => upd_on (h j hj)), hR.w8.keepM rfl (fun h j hj => upd_on (h j hj)), hR.w9.keepM rfl (fun h j hj => upd_on (h j hj)), hR.w10.keepM rfl (fun h j hj => upd_on (h j hj)), hR.w11.keepM rfl (fun h j hj => upd_on (h j hj)), hR.w12.keepM rfl (fun h j hj => upd_on (h j hj)), hR.w13.keepM rfl (fun h j hj => upd_on (h j hj)), hR.w14.keepM rfl (fun h j hj => upd_on (h j hj)), hR.w15.keepM rfl (fun h j hj => upd_on (h j hj)), (fun _ j hj => upd_on (hw j hj)), hR.w17.keepM rfl (fun h j hj => upd_on (h j hj)), hR.w18.keepM rfl (fun h j hj => upd_on (h j hj)), hR.w19.keepM rfl (fun h j hj => upd_on (h j hj)), hR.w20.keepM rfl (fun h j hj => upd_on (h j hj)), hR.w21.keepM rfl (fun h j hj => upd_on (h j hj))⟩⟩
      refine EachOf.cons [10] rfl (by kernel_rfl) ?_ ?_
      · rintro L A W ⟨v, rfl, hR⟩ hi hw K hK
        have e10 := hR.f10 (hw 10 (by simp))
        simp only [e10]
        clear e10
        go_simp
        refine hK.out _ _ ?_
        exact ⟨(fun jz => if jz = 93 then .bool true else if jz = 100 then .pointer (some ⟨kb, 0, none⟩) else v jz), rfl, ⟨hR.st, hR.f0.keep rfl, hR.f1.keep rfl, hR.f2.keep rfl, hR.f3.keep rfl, hR.f4.keep rfl, hR.f5.keep rfl, hR.f6.keep rfl, hR.f7.keep rfl, hR.f8.keep rfl, hR.f9.keep rfl, (fun _ => rfl), hR.f11.keep rfl, hR.f12.keep rfl, hR.f13.keep rfl, hR.f14.keep rfl, hR.f15.keep rfl, hR.f16.keep rfl, (fun _ => rfl), hR.f18.keep rfl, hR.f19.keep rfl, hR.f20.keep rfl, hR.f21.keep rfl, hR.w2.keepM rfl (fun h j hj => upd_on (h j hj)), hR.w3.keepM rfl (fun h j hj => upd_on (h j hj)), hR.w4.keepM rfl (fun h j hj => upd_on (h j hj)), hR.w5.keepM rfl (fun h j hj => upd_on (h j hj)), hR.w6.keepM rfl (fun h j hj => upd_on (h j hj)), hR.w7.keepM rfl (fun h j hj => upd_on (h j hj)), hR.w8.keepM rfl (fun h j hj => upd_on (h j hj)), hR.w9.keepM rfl (fun h j hj => upd_on (h j hj)), hR.w10.keepM rfl (fun h j hj => upd_on (h j hj)), hR.w11.keepM rfl (fun h j hj => upd_on (h j hj)), hR.w12.keepM rfl (fun h j hj => upd_on (h j hj)), hR.w13.keepM rfl (fun h j hj => upd_on (h j hj)), hR.w14.keepM rfl (fun h j hj => upd_on (h j hj)), hR.w15.keepM rfl (fun h j hj => upd_on (h j hj)), hR.w16.keepM rfl (fun h j hj => upd_on (h j hj)), (fun _ j hj => upd_on (hw j hj)), hR.w18.keepM rfl (fun h j hj => upd_on (h j hj)), hR.w19.keepM rfl (fun h j hj => upd_on (h j hj)), hR.w20.keepM rfl (fun h j hj => upd_on (h j hj)), hR.w21.keepM rfl (fun h j hj => upd_on (h j hj))⟩⟩
      refine EachOf.cons [10, 17] rfl (by kernel_rfl) ?_ ?_
      · rintro L A W ⟨v, rfl, hR⟩ hi hw K hK
        have e17 := hR.f17 (hw 17 (by simp))
        have e10 := hR.f10 (hw 10 (by simp))
        simp only [e17, e10]
        clear e17 e10
        have q0 := (hR.st.cell (p := ⟨kb, 0, none⟩) LV0.out.2).trans LV0.out.1
        have q1 := (hR.st.cell (p := ⟨kb, 1, none⟩) LV1.out.2).trans LV1.out.1
        go_simp
        refine hK.out _ _ ?_
        exact ⟨(fun jz => if jz = 100 then .pointer (some ⟨kb, 0, none⟩) else if jz = 93 then .bool true else if jz = 101 then .agg #[.int .i64 va, .int .i64 vd] else v jz), rfl, ⟨hR.st, hR.f0.keep rfl, hR.f1.keep rfl, hR.f2.keep rfl, hR.f3.keep rfl, hR.f4.keep rfl, hR.f5.keep rfl, hR.f6.keep rfl, hR.f7.keep rfl, hR.f8.keep rfl, hR.f9.keep rfl, (fun _ => rfl), hR.f11.keep rfl, hR.f12.keep rfl, hR.f13.keep rfl, hR.f14.keep rfl, hR.f15.keep rfl, hR.f16.keep rfl, (fun _ => rfl), (fun _ => rfl), hR.f19.keep rfl, hR.f20.keep rfl, hR.f21.keep rfl, hR.w2.keepM rfl (fun h j hj => upd_on (h j hj)), hR.w3.keepM rfl (fun h j hj => upd_on (h j hj)), hR.w4.keepM rfl (fun h j hj => upd_on (h j hj)), hR.w5.keepM rfl (fun h j hj => upd_on (h j hj)), hR.w6.keepM rfl (fun h j hj => upd_on (h j hj)), hR.w7.keepM rfl (fun h j hj => upd_on (h j hj)), hR.w8.keepM rfl (fun h j hj => upd_on (h j hj)), hR.w9.keepM rfl (fun h j hj => upd_on (h j hj)), hR.w10.keepM rfl (fun h j hj => upd_on (h j hj)), hR.w11.keepM rfl (fun h j hj => upd_on (h j hj)), hR.w12.keepM rfl (fun h j hj => upd_on (h j hj)), hR.w13.keepM rfl (fun h j hj => upd_on (h j hj)), hR.w14.keepM rfl (fun h j hj => upd_on (h j hj)), hR.w15.keepM rfl (fun h j hj => upd_on (h j hj)), hR.w16.keepM rfl (fun h j hj => upd_on (h j hj)), hR.w17.keepM rfl (fun h j hj => upd_on (h j hj)), (fun _ j hj => upd_on (hw j hj)), hR.w19.keepM rfl (fun h j hj => upd_on (h j hj)), hR.w20.keepM rfl (fun h j hj => upd_on (h j hj)), hR.w21.keepM rfl (fun h j hj => upd_on (h j hj))⟩⟩
      refine EachOf.cons [10, 16, 18] rfl (by kernel_rfl) ?_ ?_
      · rintro L A W ⟨v, rfl, hR⟩ hi hw K hK
        have e16 := hR.f16 (hw 16 (by simp))
        have e18 := hR.f18 (hw 18 (by simp))
        have e10 := hR.f10 (hw 10 (by simp))
        simp only [e16, e18, e10]
        clear e16 e18 e10
        go_simp
        rw [HIF.out]
        go_simp
        refine hK.out _ _ ?_
        exact ⟨(fun jz => if jz = 99 then .agg #[.int .i64 a, .int .i64 d] else if jz = 101 then .agg #[.int .i64 va, .int .i64 vd] else if jz = 93 then .bool true else if jz = 102 then .bool false else v jz), rfl, ⟨hR.st, hR.f0.keep rfl, hR.f1.keep rfl, hR.f2.keep rfl, hR.f3.keep rfl, hR.f4.keep rfl, hR.f5.keep rfl, hR.f6.keep rfl, hR.f7.keep rfl, hR.f8.keep rfl, hR.f9.keep rfl, (fun _ => rfl), hR.f11.keep rfl, hR.f12.keep rfl, hR.f13.keep rfl, hR.f14.keep rfl, hR.f15.keep rfl, (fun _ => rfl), hR.f17.keep rfl, (fun _ => rfl), (fun _ => rfl), hR.f20.keep rfl, hR.f21.keep rfl, hR.w2.keepM rfl (fun h j hj => upd_on (h j hj)), hR.w3.keepM rfl (fun h j hj => upd_on (h j hj)), hR.w4.keepM rfl (fun h j hj => upd_on (h j hj)), hR.w5.keepM rfl (fun h j hj => upd_on (h j hj)), hR.w6.keepM rfl (fun h j hj => upd_on (h j hj)), hR.w7.keepM rfl (fun h j hj => upd_on (h j hj)), hR.w8.keepM rfl (fun h j hj => upd_on (h j hj)), hR.w9.keepM rfl (fun h j hj => upd_on (h j hj)), hR.w10.keepM rfl (fun h j hj => upd_on (h j hj)), hR.w11.keepM rfl (fun h j hj => upd_on (h j hj)), hR.w12.keepM rfl (fun h j hj => upd_on (h j hj)), hR.w13.keepM rfl (fun h j hj => upd_on (h j hj)), hR.w14.keepM rfl (fun h j hj => upd_on (h j hj)), hR.w15.keepM rfl (fun h j hj => upd_on (h j hj)), hR.w16.keepM rfl (fun h j hj => upd_on (h j hj)), hR.w17.keepM rfl (fun h j hj => upd_on (h j hj)), hR.w18.keepM rfl (fun h j hj => upd_on (h j hj)), (fun _ j hj => upd_on (hw j hj)), hR.w20.keepM rfl (fun h j hj => upd_on (h j hj)), hR.w21.keepM rfl (fun h j hj => upd_on (h j hj))⟩⟩
      refine EachOf.cons [10, 19] rfl (by kernel_rfl) ?_ ?_
      · rintro L A W ⟨v, rfl, hR⟩ hi hw K hK
        have e10 := hR.f10 (hw 10 (by simp))
        have e19 := hR.f19 (hw 19 (by simp))
        simp only [e10, e19]
        clear e10 e19
        go_simp
        refine hK.out _ _ ?_
        exact ⟨(fun jz => if jz = 93 then .bool true else if jz = 102 then .bool false else if jz = 103 then .bool false else v jz), rfl, ⟨hR.st, hR.f0.keep rfl, hR.f1.keep rfl, hR.f2.keep rfl, hR.f3.keep rfl, hR.f4.keep rfl, hR.f5.keep rfl, hR.f6.keep rfl, hR.f7.keep rfl, hR.f8.keep rfl, hR.f9.keep rfl, (fun _ => rfl), hR.f11.keep rfl, hR.f12.keep rfl, hR.f13.keep rfl, hR.f14.keep rfl, hR.f15.keep rfl, hR.f16.keep rfl, hR.f17.keep rfl, hR.f18.keep rfl, (fun _ => rfl), (fun _ => rfl), hR.f21.keep rfl, hR.w2.keepM rfl (fun h j hj => upd_on (h j hj)), hR.w3.keepM rfl (fun h j hj => upd_on (h j hj)), hR.w4.keepM rfl (fun h j hj => upd_on (h j hj)), hR.w5.keepM rfl (fun h j hj => upd_on (h j hj)), hR.w6.keepM rfl (fun h j hj => upd_on (h j hj)), hR.w7.keepM rfl (fun h j hj => upd_on (h j hj)), hR.w8.keepM rfl (fun h j hj => upd_on (h j hj)), hR.w9.keepM rfl (fun h j hj => upd_on (h j hj)), hR.w10.keepM rfl (fun h j hj => upd_on (h j hj)), hR.w11.keepM rfl (fun h j hj => upd_on (h j hj)), hR.w12.keepM rfl (fun h j hj => upd_on (h j hj)), hR.w13.keepM rfl (fun h j hj => upd_on (h j hj)), hR.w14.keepM rfl (fun h j hj => upd_on (h j hj)), hR.w15.keepM rfl (fun h j hj => upd_on (h j hj)), hR.w16.keepM rfl (fun h j hj => upd_on (h j hj)), hR.w17.keepM rfl (fun h j hj => upd_on (h j hj)), hR.w18.keepM rfl (fun h j hj => upd_on (h j hj)), hR.w19.keepM rfl (fun h j hj => upd_on (h j hj)), (fun _ j hj => upd_on (hw j hj)), hR.w21.keepM rfl (fun h j hj => upd_on (h j hj))⟩⟩
      refine EachOf.cons [20] rfl (by kernel_rfl) ?_ ?_
      · rintro L A W ⟨v, rfl, hR⟩ hi hw K hK
        have e20 := hR.f20 (hw 20 (by simp))
        simp only [e20]
        clear e20
        go_simp
        refine hK.out _ _ ?_
        exact ⟨(fun jz => if jz = 103 then .bool false else if jz = 13 then .bool false else v jz), rfl, ⟨hR.st, hR.f0.keep rfl, hR.f1.keep rfl, hR.f2.keep rfl, hR.f3.keep rfl, hR.f4.keep rfl, hR.f5.keep rfl, hR.f6.keep rfl, hR.f7.keep rfl, hR.f8.keep rfl, hR.f9.keep rfl, hR.f10.keep rfl, hR.f11.keep rfl, hR.f12.keep rfl, hR.f13.keep rfl, hR.f14.keep rfl, hR.f15.keep rfl, hR.f16.keep rfl, hR.f17.keep rfl, hR.f18.keep rfl, hR.f19.keep rfl, (fun _ => rfl), (fun _ => rfl), hR.w2.keepM rfl (fun h j hj => upd_on (h j hj)), hR.w3.keepM rfl (fun h j hj => upd_on (h j hj)), hR.w4.keepM rfl (fun h j hj => upd_on (h j hj)), hR.w5.keepM rfl (fun h j hj => upd_on (h j hj)), hR.w6.keepM rfl (fun h j hj => upd_on (h j hj)), hR.w7.keepM rfl (fun h j hj => upd_on (h j hj)), hR.w8.keepM rfl (fun h j hj => upd_on (h j hj)), hR.w9.keepM rfl (fun h j hj => upd_on (h j hj)), hR.w10.keepM rfl (fun h j hj => upd_on (h j hj)), hR.w11.keepM rfl (fun h j hj => upd_on (h j hj)), hR.w12.keepM rfl (fun h j hj => upd_on (h j hj)), hR.w13.keepM rfl (fun h j hj => upd_on (h j hj)), hR.w14.keepM rfl (fun h j hj => upd_on (h j hj)), hR.w15.keepM rfl (fun h j hj => upd_on (h j hj)), hR.w16.keepM rfl (fun h j hj => upd_on (h j hj)), hR.w17.keepM rfl (fun h j hj => upd_on (h j hj)), hR.w18.keepM rfl (fun h j hj => upd_on (h j hj)), hR.w19.keepM rfl (fun h j hj => upd_on (h j hj)), hR.w20.keepM rfl (fun h j hj => upd_on (h j hj)), (fun _ j hj => upd_on (hw j hj))⟩⟩
      exact EachOf.nil
    rintro L A W ⟨v, rfl, hR⟩ hL
    have e21 := hR.f21 (hL 21 (by simp))
    simp only [e21]
    have HVB := Lib.hid (HVB.out.on hR.st)
    have HKB := Lib.hid (HKB.out.on hR.st)
    have HB := Lib.hid (below_on HB.out hR.st)
    clear e21 hR hL C1 C2 LP0 LP1 LY LV0 LV1 LT0 LT1 HXB
    obtain ⟨_, b0, b1⟩ := HVB.out
    have k0 := HKB.out.c0
    have k1 := HKB.out.c1
    cases fv
    · go_wp2_with fail
      go_ret2
      (first | exact ⟨HB.out, false, 0, rfl, .inr (.inr (.inr ⟨hok, HFV.out.1, HFV.out.2.1, HFV.out.2.2, rfl, rfl, HCF.out, ⟨fun h => (by cases h), fun h => absurd h HNO.out⟩, rfl⟩))⟩ | exact ⟨HB.out, .inl ⟨0, rfl, .inr (.inr (.inr ⟨hok, HFV.out.1, HFV.out.2.1, HFV.out.2.2, rfl, rfl, HCF.out, ⟨fun h => (by cases h), fun h => absurd h HNO.out⟩, rfl⟩))⟩⟩)
    · by_cases h1 : ra = va
      · subst h1
        by_cases h2 : rd = vd
        · subst h2
          go_wp2_with fail
          go_ret2
          (first | exact ⟨HB.out, false, 0, rfl, .inr (.inr (.inr ⟨hok, HFV.out.1, HFV.out.2.1, HFV.out.2.2, rfl, rfl, HCF.out, ⟨fun h => (by cases h), fun h => absurd h HNO.out⟩, rfl⟩))⟩ | exact ⟨HB.out, .inl ⟨0, rfl, .inr (.inr (.inr ⟨hok, HFV.out.1, HFV.out.2.1, HFV.out.2.2, rfl, rfl, HCF.out, ⟨fun h => (by cases h), fun h => absurd h HNO.out⟩, rfl⟩))⟩⟩)
        · go_wp2_with fail
          go_ret2
          (first | exact ⟨HB.out, false, 0, rfl, .inr (.inr (.inr ⟨hok, HFV.out.1, HFV.out.2.1, HFV.out.2.2, rfl, rfl, HCF.out, ⟨fun h => (by cases h), fun h => absurd h HNO.out⟩, rfl⟩))⟩ | exact ⟨HB.out, .inl ⟨0, rfl, .inr (.inr (.inr ⟨hok, HFV.out.1, HFV.out.2.1, HFV.out.2.2, rfl, rfl, HCF.out, ⟨fun h => (by cases h), fun h => absurd h HNO.out⟩, rfl⟩))⟩⟩)
      · go_wp2_with fail
        go_ret2
        (first | exact ⟨HB.out, false, 0, rfl, .inr (.inr (.inr ⟨hok, HFV.out.1, HFV.out.2.1, HFV.out.2.2, rfl, rfl, HCF.out, ⟨fun h => (by cases h), fun h => absurd h HNO.out⟩, rfl⟩))⟩ | exact ⟨HB.out, .inl ⟨0, rfl, .inr (.inr (.inr ⟨hok, HFV.out.1, HFV.out.2.1, HFV.out.2.2, rfl, rfl, HCF.out, ⟨fun h => (by cases h), fun h => absurd h HNO.out⟩, rfl⟩))⟩⟩)
  have hif : ∀ (α : Type) (x y : α), (if a = va then if d = vd then x else y else y) = x := fun α x y => by rw [if_pos had.1, if_pos had.2]
  have HIF := Lib.hid hif
  have HHAD := Lib.hid had
  clear hif had
  refine wp_region_each (fun L A W => ∃ (v : Nat → Value), A = ⟨#[_, _, _, _, _, _, _, _, _, _, _, _, _, v 13, _, _, _, _, _, _, _, _, _, _, _, _, _, _, _, _, _, _, _, _, _, _, _, _, _, _, _, _, _, _, _, _, _, _, _, _, _, _, _, _, _, _, _, _, _, _, _, _, _, _, _, _, _, _, _, _, _, _, _, _, _, _, _, _, _, _, _, _, _, v 83, v 84, v 85, v 86, v 87, v 88, v 89, v 90, v 91, v 92, v 93, v 94, v 95, v 96, v 97, v 98, v 99, v 100, v 101, v 102, v 103, _, _, _, _, _, _, _, _, _, _], []⟩ ∧ CkCR xb kb ab p.n p.m p.cc p.rc yc p.ca p.ra ya a d va vd wc L v W) (by kernel_rfl) (by kernel_rfl) ⟨fun jz => if jz = 83 then undef else if jz = 84 then undef else if jz = 85 then undef else if jz = 86 then undef else if jz = 87 then undef else if jz = 88 then undef else if jz = 89 then undef else if jz = 90 then undef else if jz = 91 then undef else if jz = 92 then undef else if jz = 93 then undef else if jz = 94 then undef else if jz = 95 then undef else if jz = 96 then undef else if jz = 97 then undef else if jz = 98 then undef else if jz = 99 then undef else if jz = 100 then undef else if jz = 101 then undef else if jz = 102 then undef else if jz = 103 then undef else if jz = 13 then undef else undef, rfl, ⟨Below.drew (Below.refl _ _), Had.none, Had.none, Had.none, Had.none, Had.none, Had.none, Had.none, Had.none, Had.none, Had.none, Had.none, Had.none, Had.none, Had.none, Had.none, Had.none, Had.none, Had.none, Had.none, Had.none, Had.none, Had.none, Had.none, Had.none, Had.none, Had.none, Had.none, Had.none, Had.none, Had.none, Had.none, Had.none, Had.none, Had.none, Had.none, Had.none, Had.none, Had.none, Had.none, Had.none, Had.none, Had.none⟩⟩ (rs := [0, 1, 2, 3, 4, 5, 6, 7, 8, 9, 10, 11, 12, 13, 14, 15, 16, 17, 18, 19, 20, 21]) (by kernel_rfl) ?_ ?_
  · refine EachOf.cons [] rfl (by kernel_rfl) ?_ ?_
    · rintro L A W ⟨v, rfl, hR⟩ hi hw K hK
      have q0 := (hR.st.cell (p := ⟨xb, 0, none⟩) LP0.out.2).trans LP0.out.1
      have q1 := (hR.st.cell (p := ⟨xb, 1, none⟩) LP1.out.2).trans LP1.out.1
      go_simp
      refine hK.out _ _ ?_
      exact ⟨(fun jz => if jz = 83 then .agg #[.slice p.ca p.n p.cc, .slice p.ra p.m p.rc] else v jz), rfl, ⟨hR.st, (fun _ => rfl), hR.f1.keep rfl, hR.f2.keep rfl, hR.f3.keep rfl, hR.f4.keep rfl, hR.f5.keep rfl, hR.f6.keep rfl, hR.f7.keep rfl, hR.f8.keep rfl, hR.f9.keep rfl, hR.f10.keep rfl, hR.f11.keep rfl, hR.f12.keep rfl, hR.f13.keep rfl, hR.f14.keep rfl, hR.f15.keep rfl, hR.f16.keep rfl, hR.f17.keep rfl, hR.f18.keep rfl, hR.f19.keep rfl, hR.f20.keep rfl, hR.f21.keep rfl, hR.w2.keepM rfl (fun h j hj => upd_on (h j hj)), hR.w3.keepM rfl (fun h j hj => upd_on (h j hj)), hR.w4.keepM rfl (fun h j hj => upd_on (h j hj)), hR.w5.keepM rfl (fun h j hj => upd_on (h j hj)), hR.w6.keepM rfl (fun h j hj => upd_on (h j hj)), hR.w7.keepM rfl (fun h j hj => upd_on (h j hj)), hR.w8.keepM rfl (fun h j hj => upd_on (h j hj)), hR.w9.keepM rfl (fun h j hj => upd_on (h j hj)), hR.w10.keepM rfl (fun h j hj => upd_on (h j hj)), hR.w11.keepM rfl (fun h j hj => upd_on (h j hj)), hR.w12.keepM rfl (fun h j hj => upd_on (h j hj)), hR.w13.keepM rfl (fun h j hj => upd_on (h j hj)), hR.w14.keepM rfl (fun h j hj => upd_on (h j hj)), hR.w15.keepM rfl (fun h j hj => upd_on (h j hj)), hR.w16.keepM rfl (fun h j hj => upd_on (h j hj)), hR.w17.keepM rfl (fun h j hj => upd_on (h j hj)), hR.w18.keepM rfl (fun h j hj => upd_on (h j hj)), hR.w19.keepM rfl (fun h j hj => upd_on (h j hj)), hR.w20.keepM rfl (fun h j hj => upd_on (h j hj)), hR.w21.keepM rfl (fun h j hj => upd_on (h j hj))⟩⟩
    refine EachOf.cons [] rfl (by kernel_rfl) ?_ ?_
    · rintro L A W ⟨v, rfl, hR⟩ hi hw K hK
      go_simp
      refine hK.out _ _ ?_
      exact ⟨(fun jz => if jz = 84 then .pointer (some ⟨kb, 3, none⟩) else v jz), rfl, ⟨hR.st, hR.f0.keep rfl, (fun _ => rfl), hR.f2.keep rfl, hR.f3.keep rfl, hR.f4.keep rfl, hR.f5.keep rfl, hR.f6.keep rfl, hR.f7.keep rfl, hR.f8.keep rfl, hR.f9.keep rfl, hR.f10.keep rfl, hR.f11.keep rfl, hR.f12.keep rfl, hR.f13.keep rfl, hR.f14.keep rfl, hR.f15.keep rfl, hR.f16.keep rfl, hR.f17.keep rfl, hR.f18.keep rfl, hR.f19.keep rfl, hR.f20.keep rfl, hR.f21.keep rfl, hR.w2.keepM rfl (fun h j hj => upd_on (h j hj)), hR.w3.keepM rfl (fun h j hj => upd_on (h j hj)), hR.w4.keepM rfl (fun h j hj => upd_on (h j hj)), hR.w5.keepM rfl (fun h j hj => upd_on (h j hj)), hR.w6.keepM rfl (fun h j hj => upd_on (h j hj)), hR.w7.keepM rfl (fun h j hj => upd_on (h j hj)), hR.w8.keepM rfl (fun h j hj => upd_on (h j hj)), hR.w9.keepM rfl (fun h j hj => upd_on (h j hj)), hR.w10.keepM rfl (fun h j hj => upd_on (h j hj)), hR.w11.keepM rfl (fun h j hj => upd_on (h j hj)), hR.w12.keepM rfl (fun h j hj => upd_on (h j hj)), hR.w13.keepM rfl (fun h j hj => upd_on (h j hj)), hR.w14.keepM rfl (fun h j hj => upd_on (h j hj)), hR.w15.keepM rfl (fun h j hj => upd_on (h j hj)), hR.w16.keepM rfl (fun h j hj => upd_on (h j hj)), hR.w17.keepM rfl (fun h j hj => upd_on (h j hj)), hR.w18.keepM rfl (fun h j hj => upd_on (h j hj)), hR.w19.keepM rfl (fun h j hj => upd_on (h j hj)), hR.w20.keepM rfl (fun h j hj => upd_on (h j hj)), hR.w21.keepM rfl (fun h j hj => upd_on (h j hj))⟩⟩
    refine EachOf.cons [1] rfl (by kernel_rfl) ?_ ?_
    · rintro L A W ⟨v, rfl, hR⟩ hi hw K hK
      have e1 := hR.f1 (hw 1 (by simp))
      simp only [e1]
      clear e1
      have q0 := (hR.st.cell (p := ⟨kb, 3, none⟩) LY.out.2).trans LY.out.1
      go_simp
      refine hK.out _ _ ?_
      exact ⟨(fun jz => if jz = 84 then .pointer (some ⟨kb, 3, none⟩) else if jz = 85 then .slice ya p.m yc else v jz), rfl, ⟨hR.st, hR.f0.keep rfl, (fun _ => rfl), (fun _ => rfl), hR.f3.keep rfl, hR.f4.keep rfl, hR.f5.keep rfl, hR.f6.keep rfl, hR.f7.keep rfl, hR.f8.keep rfl, hR.f9.keep rfl, hR.f10.keep rfl, hR.f11.keep rfl, hR.f12.keep rfl, hR.f13.keep rfl, hR.f14.keep rfl, hR.f15.keep rfl, hR.f16.keep rfl, hR.f17.keep rfl, hR.f18.keep rfl, hR.f19.keep rfl, hR.f20.keep rfl, hR.f21.keep rfl, (fun _ j hj => upd_on (hw j hj)), hR.w3.keepM rfl (fun h j hj => upd_on (h j hj)), hR.w4.keepM rfl (fun h j hj => upd_on (h j hj)), hR.w5.keepM rfl (fun h j hj => upd_on (h j hj)), hR.w6.keepM rfl (fun h j hj => upd_on (h j hj)), hR.w7.keepM rfl (fun h j hj => upd_on (h j hj)), hR.w8.keepM rfl (fun h j hj => upd_on (h j hj)), hR.w9.keepM rfl (fun h j hj => upd_on (h j hj)), hR.w10.keepM rfl (fun h j hj => upd_on (h j hj)), hR.w11.keepM rfl (fun h j hj => upd_on (h j hj)), hR.w12.keepM rfl (fun h j hj => upd_on (h j hj)), hR.w13.keepM rfl (fun h j hj => upd_on (h j hj)), hR.w14.keepM rfl (fun h j hj => upd_on (h j hj)), hR.w15.keepM rfl (fun h j hj => upd_on (h j hj)), hR.w16.keepM rfl (fun h j hj => upd_on (h j hj)), hR.w17.keepM rfl (fun h j hj => upd_on (h j hj)), hR.w18.keepM rfl (fun h j hj => upd_on (h j hj)), hR.w19.keepM rfl (fun h j hj => upd_on (h j hj)), hR.w20.keepM rfl (fun h j hj => upd_on (h j hj)), hR.w21.keepM rfl (fun h j hj => upd_on (h j hj))⟩⟩
    refine EachOf.cons [0, 2] rfl (by kernel_rfl) ?_ ?_
    · rintro L A W ⟨v, rfl, hR⟩ hi hw K hK
      have e0 := hR.f0 (hw 0 (by simp))
      have e2 := hR.f2 (hw 2 (by simp))
      simp only [e0, e2]
      clear e0 e2
      go_simp
      go_at_call 47
      (with_reducible refine (((C1 W (hR.st))).out.mono ?_))
      rintro e w2 ⟨rfl, hb⟩
      go_simp
      refine hK.out _ _ ?_
      exact ⟨(fun jz => if jz = 83 then .agg #[.slice p.ca p.n p.cc, .slice p.ra p.m p.rc] else if jz = 85 then .slice ya p.m yc else if jz = 86 then .bool true else v jz), rfl, ⟨below_on hR.st hb, (fun _ => rfl), hR.f1.keep rfl, (fun _ => rfl), (fun _ => rfl), hR.f4.keep rfl, hR.f5.keep rfl, hR.f6.keep rfl, hR.f7.keep rfl, hR.f8.keep rfl, hR.f9.keep rfl, hR.f10.keep rfl, hR.f11.keep rfl, hR.f12.keep rfl, hR.f13.keep rfl, hR.f14.keep rfl, hR.f15.keep rfl, hR.f16.keep rfl, hR.f17.keep rfl, hR.f18.keep rfl, hR.f19.keep rfl, hR.f20.keep rfl, hR.f21.keep rfl, hR.w2.keepM rfl (fun h j hj => upd_on (h j hj)), (fun _ j hj => upd_on (hw j hj)), hR.w4.keepM rfl (fun h j hj => upd_on (h j hj)), hR.w5.keepM rfl (fun h j hj => upd_on (h j hj)), hR.w6.keepM rfl (fun h j hj => upd_on (h j hj)), hR.w7.keepM rfl (fun h j hj => upd_on (h j hj)), hR.w8.keepM rfl (fun h j hj => upd_on (h j hj)), hR.w9.keepM rfl (fun h j hj => upd_on (h j hj)), hR.w10.keepM rfl (fun h j hj => upd_on (h j hj)), hR.w11.keepM rfl (fun h j hj => upd_on (h j hj)), hR.w12.keepM rfl (fun h j hj => upd_on (h j hj)), hR.w13.keepM rfl (fun h j hj => upd_on (h j hj)), hR.w14.keepM rfl (fun h j hj => upd_on (h j hj)), hR.w15.keepM rfl (fun h j hj => upd_on (h j hj)), hR.w16.keepM rfl (fun h j hj => upd_on (h j hj)), hR.w17.keepM rfl (fun h j hj => upd_on (h j hj)), hR.w18.keepM rfl (fun h j hj => upd_on (h j hj)), hR.w19.keepM rfl (fun h j hj => upd_on (h j hj)), hR.w20.keepM rfl (fun h j hj => upd_on (h j hj)), hR.w21.keepM rfl (fun h j hj => upd_on (h j hj))⟩⟩
    refine EachOf.cons [3] rfl (by kernel_rfl) ?_ ?_
    · rintro L A W ⟨v, rfl, hR⟩ hi hw K hK
      have e3 := hR.f3 (hw 3 (by simp))
      simp only [e3]
      clear e3
      go_simp
      refine hK.out _ _ ?_
      exact ⟨(fun jz => if jz = 86 then .bool true else if jz = 87 then .bool true else v jz), rfl, ⟨hR.st, hR.f0.keep rfl, hR.f1.keep rfl, hR.f2.keep rfl, (fun _ => rfl), (fun _ => rfl), hR.f5.keep rfl, hR.f6.keep rfl, hR.f7.keep rfl, hR.f8.keep rfl, hR.f9.keep rfl, hR.f10.keep rfl, hR.f11.keep rfl, hR.f12.keep rfl, hR.f13.keep rfl, hR.f14.keep rfl, hR.f15.keep rfl, hR.f16.keep rfl, hR.f17.keep rfl, hR.f18.keep rfl, hR.f19.keep rfl, hR.f20.keep rfl, hR.f21.keep rfl, hR.w2.keepM rfl (fun h j hj => upd_on (h j hj)), hR.w3.keepM rfl (fun h j hj => upd_on (h j hj)), (fun _ j hj => upd_on (hw j hj)), hR.w5.keepM rfl (fun h j hj => upd_on (h j hj)), hR.w6.keepM rfl (fun h j hj => upd_on (h j hj)), hR.w7.keepM rfl (fun h j hj => upd_on (h j hj)), hR.w8.keepM rfl (fun h j hj => upd_on (h j hj)), hR.w9.keepM rfl (fun h j hj => upd_on (h j hj)), hR.w10.keepM rfl (fun h j hj => upd_on (h j hj)), hR.w11.keepM rfl (fun h j hj => upd_on (h j hj)), hR.w12.keepM rfl (fun h j hj => upd_on (h j hj)), hR.w13.keepM rfl (fun h j hj => upd_on (h j hj)), hR.w14.keepM rfl (fun h j hj => upd_on (h j hj)), hR.w15.keepM rfl (fun h j hj => upd_on (h j hj)), hR.w16.keepM rfl (fun h j hj => upd_on (h j hj)), hR.w17.keepM rfl (fun h j hj => upd_on (h j hj)), hR.w18.keepM rfl (fun h j hj => upd_on (h j hj)), hR.w19.keepM rfl (fun h j hj => upd_on (h j hj)), hR.w20.keepM rfl (fun h j hj => upd_on (h j hj)), hR.w21.keepM rfl (fun h j hj => upd_on (h j hj))⟩⟩
    refine EachOf.cons [4] rfl (by kernel_rfl) ?_ ?_
    · rintro L A W ⟨v, rfl, hR⟩ hi hw K hK
      have e4 := hR.f4 (hw 4 (by simp))
      simp only [e4]
      clear e4
      go_simp
      refine hK.out _ _ ?_
      exact ⟨(fun jz => if jz = 87 then .bool true else if jz = 88 then .slice (some ⟨ab, 0, none⟩) (p.n + 1) (p.n + 1) else v jz), rfl, ⟨hR.st, hR.f0.keep rfl, hR.f1.keep rfl, hR.f2.keep rfl, hR.f3.keep rfl, (fun _ => rfl), (fun _ => rfl), hR.f6.keep rfl, hR.f7.keep rfl, hR.f8.keep rfl, hR.f9.keep rfl, hR.f10.keep rfl, hR.f11.keep rfl, hR.f12.keep rfl, hR.f13.keep rfl, hR.f14.keep rfl, hR.f15.keep rfl, hR.f16.keep rfl, hR.f17.keep rfl, hR.f18.keep rfl, hR.f19.keep rfl, hR.f20.keep rfl, hR.f21.keep rfl, hR.w2.keepM rfl (fun h j hj => upd_on (h j hj)), hR.w3.keepM rfl (fun h j hj => upd_on (h j hj)), hR.w4.keepM rfl (fun h j hj => upd_on (h j hj)), (fun _ j hj => upd_on (hw j hj)), hR.w6.keepM rfl (fun h j hj => upd_on (h j hj)), hR.w7.keepM rfl (fun h j hj => upd_on (h j hj)), hR.w8.keepM rfl (fun h j hj => upd_on (h j hj)), hR.w9.keepM rfl (fun h j hj => upd_on (h j hj)), hR.w10.keepM rfl (fun h j hj => upd_on (h j hj)), hR.w11.keepM rfl (fun h j hj => upd_on (h j hj)), hR.w12.keepM rfl (fun h j hj => upd_on (h j hj)), hR.w13.keepM rfl (fun h j hj => upd_on (h j hj)), hR.w14.keepM rfl (fun h j hj => upd_on (h j hj)), hR.w15.keepM rfl (fun h j hj => upd_on (h j hj)), hR.w16.keepM rfl (fun h j hj => upd_on (h j hj)), hR.w17.keepM rfl (fun h j hj => upd_on (h j hj)), hR.w18.keepM rfl (fun h j hj => upd_on (h j hj)), hR.w19.keepM rfl (fun h j hj => upd_on (h j hj)), hR.w20.keepM rfl (fun h j hj => upd_on (h j hj)), hR.w21.keepM rfl (fun h j hj => upd_on (h j hj))⟩⟩
    refine EachOf.cons [4] rfl (by kernel_rfl) ?_ ?_
    · rintro L A W ⟨v, rfl, hR⟩ hi hw K hK
      have e4 := hR.f4 (hw 4 (by simp))
      simp only [e4]
      clear e4
      go_simp
      refine hK.out _ _ ?_
      exact ⟨(fun jz => if jz = 87 then .bool true else if jz = 89 then .pointer (some ⟨xb, 0, none⟩) else v jz), rfl, ⟨hR.st, hR.f0.keep rfl, hR.f1.keep rfl, hR.f2.keep rfl, hR.f3.keep rfl, (fun _ => rfl), hR.f5.keep rfl, (fun _ => rfl), hR.f7.keep rfl, hR.f8.keep rfl, hR.f9.keep rfl, hR.f10.keep rfl, hR.f11.keep rfl, hR.f12.keep rfl, hR.f13.keep rfl, hR.f14.keep rfl, hR.f15.keep rfl, hR.f16.keep rfl, hR.f17.keep rfl, hR.f18.keep rfl, hR.f19.keep rfl, hR.f20.keep rfl, hR.f21.keep rfl, hR.w2.keepM rfl (fun h j hj => upd_on (h j hj)), hR.w3.keepM rfl (fun h j hj => upd_on (h j hj)), hR.w4.keepM rfl (fun h j hj => upd_on (h j hj)), hR.w5.keepM rfl (fun h j hj => upd_on (h j hj)), (fun _ j hj => upd_on (hw j hj)), hR.w7.keepM rfl (fun h j hj => upd_on (h j hj)), hR.w8.keepM rfl (fun h j hj => upd_on (h j hj)), hR.w9.keepM rfl (fun h j hj => upd_on (h j hj)), hR.w10.keepM rfl (fun h j hj => upd_on (h j hj)), hR.w11.keepM rfl (fun h j hj => upd_on (h j hj)), hR.w12.keepM rfl (fun h j hj => upd_on (h j hj)), hR.w13.keepM rfl (fun h j hj => upd_on (h j hj)), hR.w14.keepM rfl (fun h j hj => upd_on (h j hj)), hR.w15.keepM rfl (fun h j hj => upd_on (h j hj)), hR.w16.keepM rfl (fun h j hj => upd_on (h j hj)), hR.w17.keepM rfl (fun h j hj => upd_on (h j hj)), hR.w18.keepM rfl (fun h j hj => upd_on (h j hj)), hR.w19.keepM rfl (fun h j hj => upd_on (h j hj)), hR.w20.keepM rfl (fun h j hj => upd_on (h j hj)), hR.w21.keepM rfl (fun h j hj => upd_on (h j hj))⟩⟩
    refine EachOf.cons [4, 6] rfl (by kernel_rfl) ?_ ?_
    · rintro L A W ⟨v, rfl, hR⟩ hi hw K hK
      have e6 := hR.f6 (hw 6 (by simp))
      have e4 := hR.f4 (hw 4 (by simp))
      simp only [e6, e4]
      clear e6 e4
      have q0 := (hR.st.cell (p := ⟨xb, 0, none⟩) LP0.out.2).trans LP0.out.1
      go_simp
      refine hK.out _ _ ?_
      exact ⟨(fun jz => if jz = 89 then .pointer (some ⟨xb, 0, none⟩) else if jz = 87 then .bool true else if jz = 90 then .slice p.ca p.n p.cc else v jz), rfl, ⟨hR.st, hR.f0.keep rfl, hR.f1.keep rfl, hR.f2.keep rfl, hR.f3.keep rfl, (fun _ => rfl), hR.f5.keep rfl, (fun _ => rfl), (fun _ => rfl), hR.f8.keep rfl, hR.f9.keep rfl, hR.f10.keep rfl, hR.f11.keep rfl, hR.f12.keep rfl, hR.f13.keep rfl, hR.f14.keep rfl, hR.f15.keep rfl, hR.f16.keep rfl, hR.f17.keep rfl, hR.f18.keep rfl, hR.f19.keep rfl, hR.f20.keep rfl, hR.f21.keep rfl, hR.w2.keepM rfl (fun h j hj => upd_on (h j hj)), hR.w3.keepM rfl (fun h j hj => upd_on (h j hj)), hR.w4.keepM rfl (fun h j hj => upd_on (h j hj)), hR.w5.keepM rfl (fun h j hj => upd_on (h j hj)), hR.w6.keepM rfl (fun h j hj => upd_on (h j hj)), (fun _ j hj => upd_on (hw j hj)), hR.w8.keepM rfl (fun h j hj => upd_on (h j hj)), hR.w9.keepM rfl (fun h j hj => upd_on (h j hj)), hR.w10.keepM rfl (fun h j hj => upd_on (h j hj)), hR.w11.keepM rfl (fun h j hj => upd_on (h j hj)), hR.w12.keepM rfl (fun h j hj => upd_on (h j hj)), hR.w13.keepM rfl (fun h j hj => upd_on (h j hj)), hR.w14.keepM rfl (fun h j hj => upd_on (h j hj)), hR.w15.keepM rfl (fun h j hj => upd_on (h j hj)), hR.w16.keepM rfl (fun h j hj => upd_on (h j hj)), hR.w17.keepM rfl (fun h j hj => upd_on (h j hj)), hR.w18.keepM rfl (fun h j hj => upd_on (h j hj)), hR.w19.keepM rfl (fun h j hj => upd_on (h j hj)), hR.w20.keepM rfl (fun h j hj => upd_on (h j hj)), hR.w21.keepM rfl (fun h j hj => upd_on (h j hj))⟩⟩
    refine EachOf.cons [4, 5, 7] rfl (by kernel_rfl) ?_ ?_
    · rintro L A W ⟨v, rfl, hR⟩ hi hw K hK
      have e5 := hR.f5 (hw 5 (by simp))
      have e7 := hR.f7 (hw 7 (by simp))
      have e4 := hR.f4 (hw 4 (by simp))
      simp only [e5, e7, e4]
      clear e5 e7 e4
      go_simp
      go_at_call 48
      (with_reducible refine (((C2 W (hR.st))).out.mono ?_))
      rintro e w2 ⟨rfl, hb⟩
      go_simp
      refine hK.out _ _ ?_
      exact ⟨(fun jz => if jz = 88 then .slice (some ⟨ab, 0, none⟩) (p.n + 1) (p.n + 1) else if jz = 90 then .slice p.ca p.n p.cc else if jz = 87 then .bool true else if jz = 91 then .bool true else v jz), rfl, ⟨below_on hR.st hb, hR.f0.keep rfl, hR.f1.keep rfl, hR.f2.keep rfl, hR.f3.keep rfl, (fun _ => rfl), (fun _ => rfl), hR.f6.keep rfl, (fun _ => rfl), (fun _ => rfl), hR.f9.keep rfl, hR.f10.keep rfl, hR.f11.keep rfl, hR.f12.keep rfl, hR.f13.keep rfl, hR.f14.keep rfl, hR.f15.keep rfl, hR.f16.keep rfl, hR.f17.keep rfl, hR.f18.keep rfl, hR.f19.keep rfl, hR.f20.keep rfl, hR.f21.keep rfl, hR.w2.keepM rfl (fun h j hj => upd_on (h j hj)), hR.w3.keepM rfl (fun h j hj => upd_on (h j hj)), hR.w4.keepM rfl (fun h j hj => upd_on (h j hj)), hR.w5.keepM rfl (fun h j hj => upd_on (h j hj)), hR.w6.keepM rfl (fun h j hj => upd_on (h j hj)), hR.w7.keepM rfl (fun h j hj => upd_on (h j hj)), (fun _ j hj => upd_on (hw j hj)), hR.w9.keepM rfl (fun h j hj => upd_on (h j hj)), hR.w10.keepM rfl (fun h j hj => upd_on (h j hj)), hR.w11.keepM rfl (fun h j hj => upd_on (h j hj)), hR.w12.keepM rfl (fun h j hj => upd_on (h j hj)), hR.w13.keepM rfl (fun h j hj => upd_on (h j hj)), hR.w14.keepM rfl (fun h j hj => upd_on (h j hj)), hR.w15.keepM rfl (fun h j hj => upd_on (h j hj)), hR.w16.keepM rfl (fun h j hj => upd_on (h j hj)), hR.w17.keepM rfl (fun h j hj => upd_on (h j hj)), hR.w18.keepM rfl (fun h j hj => upd_on (h j hj)), hR.w19.keepM rfl (fun h j hj => upd_on (h j hj)), hR.w20.keepM rfl (fun h j hj => upd_on (h j hj)), hR.w21.keepM rfl (fun h j hj => upd_on (h j hj))⟩⟩
    refine EachOf.cons [4, 8] rfl (by kernel_rfl) ?_ ?_
    · rintro L A W ⟨v, rfl, hR⟩ hi hw K hK
      have e4 := hR.f4 (hw 4 (by simp))
      have e8 := hR.f8 (hw 8 (by simp))
      simp only [e4, e8]
      clear e4 e8
      go_simp
      refine hK.out _ _ ?_
      exact ⟨(fun jz => if jz = 87 then .bool true else if jz = 91 then .bool true else if jz = 92 then .bool true else v jz), rfl, ⟨hR.st, hR.f0.keep rfl, hR.f1.keep rfl, hR.f2.keep rfl, hR.f3.keep rfl, (fun _ => rfl), hR.f5.keep rfl, hR.f6.keep rfl, hR.f7.keep rfl, (fun _ => rfl), (fun _ => rfl), hR.f10.keep rfl, hR.f11.keep rfl, hR.f12.keep rfl, hR.f13.keep rfl, hR.f14.keep rfl, hR.f15.keep rfl, hR.f16.keep rfl, hR.f17.keep rfl, hR.f18.keep rfl, hR.f19.keep rfl, hR.f20.keep rfl, hR.f21.keep rfl, hR.w2.keepM rfl (fun h j hj => upd_on (h j hj)), hR.w3.keepM rfl (fun h j hj => upd_on (h j hj)), hR.w4.keepM rfl (fun h j hj => upd_on (h j hj)), hR.w5.keepM rfl (fun h j hj => upd_on (h j hj)), hR.w6.keepM rfl (fun h j hj => upd_on (h j hj)), hR.w7.keepM rfl (fun h j hj => upd_on (h j hj)), hR.w8.keepM rfl (fun h j hj => upd_on (h j hj)), (fun _ j hj => upd_on (hw j hj)), hR.w10.keepM rfl (fun h j hj => upd_on (h j hj)), hR.w11.keepM rfl (fun h j hj => upd_on (h j hj)), hR.w12.keepM rfl (fun h j hj => upd_on (h j hj)), hR.w13.keepM rfl (fun h j hj => upd_on (h j hj)), hR.w14.keepM rfl (fun h j hj => upd_on (h j hj)), hR.w15.keepM rfl (fun h j hj => upd_on (h j hj)), hR.w16.keepM rfl (fun h j hj => upd_on (h j hj)), hR.w17.keepM rfl (fun h j hj => upd_on (h j hj)), hR.w18.keepM rfl (fun h j hj => upd_on (h j hj)), hR.w19.keepM rfl (fun h j hj => upd_on (h j hj)), hR.w20.keepM rfl (fun h j hj => upd_on (h j hj)), hR.w21.keepM rfl (fun h j hj => upd_on (h j hj))⟩⟩
    refine EachOf.cons [9] rfl (by kernel_rfl) ?_ ?_
    · rintro L A W ⟨v, rfl, hR⟩ hi hw K hK
      have e9 := hR.f9 (hw 9 (by simp))
      simp only [e9]
      clear e9
      go_simp
      refine hK.out _ _ ?_
      exact ⟨(fun jz => if jz = 92 then .bool true else if jz = 93 then .bool true else v jz), rfl, ⟨hR.st, hR.f0.keep rfl, hR.f1.keep rfl, hR.f2.keep rfl, hR.f3.keep rfl, hR.f4.keep rfl, hR.f5.keep rfl, hR.f6.keep rfl, hR.f7.keep rfl, hR.f8.keep rfl, (fun _ => rfl), (fun _ => rfl), hR.f11.keep rfl, hR.f12.keep rfl, hR.f13.keep rfl, hR.f14.keep rfl, hR.f15.keep rfl, hR.f16.keep rfl, hR.f17.keep rfl, hR.f18.keep rfl, hR.f19.keep rfl, hR.f20.keep rfl, hR.f21.keep rfl, hR.w2.keepM rfl (fun h j hj => upd_on (h j hj)), hR.w3.keepM rfl (fun h j hj => upd_on (h j hj)), hR.w4.keepM rfl (fun h j hj => upd_on (h j hj)), hR.w5.keepM rfl (fun h j hj => upd_on (h j hj)), hR.w6.keepM rfl (fun h j hj => upd_on (h j hj)), hR.w7.keepM rfl (fun h j hj => upd_on (h j hj)), hR.w8.keepM rfl (fun h j hj => upd_on (h j hj)), hR.w9.keepM rfl (fun h j hj => upd_on (h j hj)), (fun _ j hj => upd_on (hw j hj)), hR.w11.keepM rfl (fun h j hj => upd_on (h j hj)), hR.w12.keepM rfl (fun h j hj => upd_on (h j hj)), hR.w13.keepM rfl (fun h j hj => upd_on (h j hj)), hR.w14.keepM rfl (fun h j hj => upd_on (h j hj)), hR.w15.keepM rfl (fun h j hj => upd_on (h j hj)), hR.w16.keepM rfl (fun h j hj => upd_on (h j hj)), hR.w17.keepM rfl (fun h j hj => upd_on (h j hj)), hR.w18.keepM rfl (fun h j hj => upd_on (h j hj)), hR.w19.keepM rfl (fun h j hj => upd_on (h j hj)), hR.w20.keepM rfl (fun h j hj => upd_on (h j hj)), hR.w21.keepM rfl (fun h j hj => upd_on (h j hj))⟩⟩
    refine EachOf.cons [10] rfl (by kernel_rfl) ?_ ?_
    · rintro L A W ⟨v, rfl, hR⟩ hi hw K hK
      have e10 := hR.f10 (hw 10 (by simp))
      simp only [e10]
      clear e10
      go_simp
      refine hK.out _ _ ?_
      exact ⟨(fun jz => if jz = 93 then .bool true else if jz = 94 then .slice (some ⟨ab, 0, none⟩) (p.n + 1) (p.n + 1) else v jz), rfl, ⟨hR.st, hR.f0.keep rfl, hR.f1.keep rfl, hR.f2.keep rfl, hR.f3.keep rfl, hR.f4.keep rfl, hR.f5.keep rfl, hR.f6.keep rfl, hR.f7.keep rfl, hR.f8.keep rfl, hR.f9.keep rfl, (fun _ => rfl), (fun _ => rfl), hR.f12.keep rfl, hR.f13.keep rfl, hR.f14.keep rfl, hR.f15.keep rfl, hR.f16.keep rfl, hR.f17.keep rfl, hR.f18.keep rfl, hR.f19.keep rfl, hR.f20.keep rfl, hR.f21.keep rfl, hR.w2.keepM rfl (fun h j hj => upd_on (h j hj)), hR.w3.keepM rfl (fun h j hj => upd_on (h j hj)), hR.w4.keepM rfl (fun h j hj => upd_on (h j hj)), hR.w5.keepM rfl (fun h j hj => upd_on (h j hj)), hR.w6.keepM rfl (fun h j hj => upd_on (h j hj)), hR.w7.keepM rfl (fun h j hj => upd_on (h j hj)), hR.w8.keepM rfl (fun h j hj => upd_on (h j hj)), hR.w9.keepM rfl (fun h j hj => upd_on (h j hj)), hR.w10.keepM rfl (fun h j hj => upd_on (h j hj)), (fun _ j hj => upd_on (hw j hj)), hR.w12.keepM rfl (fun h j hj => upd_on (h j hj)), hR.w13.keepM rfl (fun h j hj => upd_on (h j hj)), hR.w14.keepM rfl (fun h j hj => upd_on (h j hj)), hR.w15.keepM rfl (fun h j hj => upd_on (h j hj)), hR.w16.keepM rfl (fun h j hj => upd_on (h j hj)), hR.w17.keepM rfl (fun h j hj => upd_on (h j hj)), hR.w18.keepM rfl (fun h j hj => upd_on (h j hj)), hR.w19.keepM rfl (fun h j hj => upd_on (h j hj)), hR.w20.keepM rfl (fun h j hj => upd_on (h j hj)), hR.w21.keepM rfl (fun h j hj => upd_on (h j hj))⟩⟩
    refine EachOf.cons [10] rfl (by kernel_rfl) ?_ ?_
    · rintro L A W ⟨v, rfl, hR⟩ hi hw K hK
      have e10 := hR.f10 (hw 10 (by simp))
      simp only [e10]
      clear e10
      go_simp
      refine hK.out _ _ ?_
      exact ⟨(fun jz => if jz = 93 then .bool true else if jz = 95 then .pointer (some ⟨xb, 0, none⟩) else v jz), rfl, ⟨hR.st, hR.f0.keep rfl, hR.f1.keep rfl, hR.f2.keep rfl, hR.f3.keep rfl, hR.f4.keep rfl, hR.f5.keep rfl, hR.f6.keep rfl, hR.f7.keep rfl, hR.f8.keep rfl, hR.f9.keep rfl, (fun _ => rfl), hR.f11.keep rfl, (fun _ => rfl), hR.f13.keep rfl, hR.f14.keep rfl, hR.f15.keep rfl, hR.f16.keep rfl, hR.f17.keep rfl, hR.f18.keep rfl, hR.f19.keep rfl, hR.f20.keep rfl, hR.f21.keep rfl, hR.w2.keepM rfl (fun h j hj => upd_on (h j hj)), hR.w3.keepM rfl (fun h j hj => upd_on (h j hj)), hR.w4.keepM rfl (fun h j hj => upd_on (h j hj)), hR.w5.keepM rfl (fun h j hj => upd_on (h j hj)), hR.w6.keepM rfl (fun h j hj => upd_on (h j hj)), hR.w7.keepM rfl (fun h j hj => upd_on (h j hj)), hR.w8.keepM rfl (fun h j hj => upd_on (h j hj)), hR.w9.keepM rfl (fun h j hj => upd_on (h j hj)), hR.w10.keepM rfl (fun h j hj => upd_on (h j hj)), hR.w11.keepM rfl (fun h j hj => upd_on (h j hj)), (fun _ j hj => upd_on (hw j hj)), hR.w13.keepM rfl (fun h j hj => upd_on (h j hj)), hR.w14.keepM rfl (fun h j hj => upd_on (h j hj)), hR.w15.keepM rfl (fun h j hj => upd_on (h j hj)), hR.w16.keepM rfl (fun h j hj => upd_on (h j hj)), hR.w17.keepM rfl (fun h j hj => upd_on (h j hj)), hR.w18.keepM rfl (fun h j hj => upd_on (h j hj)), hR.w19.keepM rfl (fun h j hj => upd_on (h j hj)), hR.w20.keepM rfl (fun h j hj => upd_on (h j hj)), hR.w21.keepM rfl (fun h j hj => upd_on (h j hj))⟩⟩
    refine EachOf.cons [10, 12] rfl (by kernel_rfl) ?_ ?_
    · rintro L A W ⟨v, rfl, hR⟩ hi hw K hK
      have e12 := hR.f12 (hw 12 (by simp))
      have e10 := hR.f10 (hw 10 (by simp))
      simp only [e12, e10]
      clear e12 e10
      have q0 := (hR.st.cell (p := ⟨xb, 0, none⟩) LP0.out.2).trans LP0.out.1
      go_simp
      refine hK.out _ _ ?_
      exact ⟨(fun jz => if jz = 95 then .pointer (some ⟨xb, 0, none⟩) else if jz = 93 then .bool true else if jz = 96 then .slice p.ca p.n p.cc else v jz), rfl, ⟨hR.st, hR.f0.keep rfl, hR.f1.keep rfl, hR.f2.keep rfl, hR.f3.keep rfl, hR.f4.keep rfl, hR.f5.keep rfl, hR.f6.keep rfl, hR.f7.keep rfl, hR.f8.keep rfl, hR.f9.keep rfl, (fun _ => rfl), hR.f11.keep rfl, (fun _ => rfl), (fun _ => rfl), hR.f14.keep rfl, hR.f15.keep rfl, hR.f16.keep rfl, hR.f17.keep rfl, hR.f18.keep rfl, hR.f19.keep rfl, hR.f20.keep rfl, hR.f21.keep rfl, hR.w2.keepM rfl (fun h j hj => upd_on (h j hj)), hR.w3.keepM rfl (fun h j hj => upd_on (h j hj)), hR.w4.keepM rfl (fun h j hj => upd_on (h j hj)), hR.w5.keepM rfl (fun h j hj => upd_on (h j hj)), hR.w6.keepM rfl (fun h j hj => upd_on (h j hj)), hR.w7.keepM rfl (fun h j hj => upd_on (h j hj)), hR.w8.keepM rfl (fun h j hj => upd_on (h j hj)), hR.w9.keepM rfl (fun h j hj => upd_on (h j hj)), hR.w10.keepM rfl (fun h j hj => upd_on (h j hj)), hR.w11.keepM rfl (fun h j hj => upd_on (h j hj)), hR.w12.keepM rfl (fun h j hj => upd_on (h j hj)), (fun _ j hj => upd_on (hw j hj)), hR.w14.keepM rfl (fun h j hj => upd_on (h j hj)), hR.w15.keepM rfl (fun h j hj => upd_on (h j hj)), hR.w16.keepM rfl (fun h j hj => upd_on (h j hj)), hR.w17.keepM rfl (fun h j hj => upd_on (h j hj)), hR.w18.keepM rfl (fun h j hj => upd_on (h j hj)), hR.w19.keepM rfl (fun h j hj => upd_on (h j hj)), hR.w20.keepM rfl (fun h j hj => upd_on (h j hj)), hR.w21.keepM rfl (fun h j hj => upd_on (h j hj))⟩⟩
    refine EachOf.cons [10, 13] rfl (by kernel_rfl) ?_ ?_
    · rintro L A W ⟨v, rfl, hR⟩ hi hw K hK
      have e13 := hR.f13 (hw 13 (by simp))
      have e10 := hR.f10 (hw 10 (by simp))
      simp only [e13, e10]
      clear e13 e10
      go_simp
      refine hK.out _ _ ?_
      exact ⟨(fun jz => if jz = 96 then .slice p.ca p.n p.cc else if jz = 93 then .bool true else if jz = 97 then .int .i64 (p.n : Int) else v jz), rfl, ⟨hR.st, hR.f0.keep rfl, hR.f1.keep rfl, hR.f2.keep rfl, hR.f3.keep rfl, hR.f4.keep rfl, hR.f5.keep rfl, hR.f6.keep rfl, hR.f7.keep rfl, hR.f8.keep rfl, hR.f9.keep rfl, (fun _ => rfl), hR.f11.keep rfl, hR.f12.keep rfl, (fun _ => rfl), (fun _ => rfl), hR.f15.keep rfl, hR.f16.keep rfl, hR.f17.keep rfl, hR.f18.keep rfl, hR.f19.keep rfl, hR.f20.keep rfl, hR.f21.keep rfl, hR.w2.keepM rfl (fun h j hj => upd_on (h j hj)), hR.w3.keepM rfl (fun h j hj => upd_on (h j hj)), hR.w4.keepM rfl (fun h j hj => upd_on (h j hj)), hR.w5.keepM rfl (fun h j hj => upd_on (h j hj)), hR.w6.keepM rfl (fun h j hj => upd_on (h j hj)), hR.w7.keepM rfl (fun h j hj => upd_on (h j hj)), hR.w8.keepM rfl (fun h j hj => upd_on (h j hj)), hR.w9.keepM rfl (fun h j hj => upd_on (h j hj)), hR.w10.keepM rfl (fun h j hj => upd_on (h j hj)), hR.w11.keepM rfl (fun h j hj => upd_on (h j hj)), hR.w12.keepM rfl (fun h j hj => upd_on (h j hj)), hR.w13.keepM rfl (fun h j hj => upd_on (h j hj)), (fun _ j hj => upd_on (hw j hj)), hR.w15.keepM rfl (fun h j hj => upd_on (h j hj)), hR.w16.keepM rfl (fun h j hj => upd_on (h j hj)), hR.w17.keepM rfl (fun h j hj => upd_on (h j hj)), hR.w18.keepM rfl (fun h j hj => upd_on (h j hj)), hR.w19.keepM rfl (fun h j hj => upd_on (h j hj)), hR.w20.keepM rfl (fun h j hj => upd_on (h j hj)), hR.w21.keepM rfl (fun h j hj => upd_on (h j hj))⟩⟩
    refine EachOf.cons [10, 11, 14] rfl (by kernel_rfl) ?_ ?_
    · rintro L A W ⟨v, rfl, hR⟩ hi hw K hK
      have e11 := hR.f11 (hw 11 (by simp))
      have e14 := hR.f14 (hw 14 (by simp))
      have e10 := hR.f10 (hw 10 (by simp))
      simp only [e11, e14, e10]
      clear e11 e14 e10
      go_simp
      refine hK.out _ _ ?_
      exact ⟨(fun jz => if jz = 94 then .slice (some ⟨ab, 0, none⟩) (p.n + 1) (p.n + 1) else if jz = 97 then .int .i64 (p.n : Int) else if jz = 93 then .bool true else if jz = 98 then .pointer (some ⟨ab, p.n * 2, none⟩) else v jz), rfl, ⟨hR.st, hR.f0.keep rfl, hR.f1.keep rfl, hR.f2.keep rfl, hR.f3.keep rfl, hR.f4.keep rfl, hR.f5.keep rfl, hR.f6.keep rfl, hR.f7.keep rfl, hR.f8.keep rfl, hR.f9.keep rfl, (fun _ => rfl), (fun _ => rfl), hR.f12.keep rfl, hR.f13.keep rfl, (fun _ => rfl), (fun _ => rfl), hR.f16.keep rfl, hR.f17.keep rfl, hR.f18.keep rfl, hR.f19.keep rfl, hR.f20.keep rfl, hR.f21.keep rfl, hR.w2.keepM rfl (fun h j hj => upd_on (h j hj)), hR.w3.keepM rfl (fun h j hj => upd_on (h j hj)), hR.w4.keepM rfl (fun h j hj => upd_on (h j hj)), hR.w5.keepM rfl (fun h j hj => upd_on (h j hj)), hR.w6.keepM rfl (fun h j hj => upd_on (h j hj)), hR.w7.keepM rfl (fun h j hj => upd_on (h j hj)), hR.w8.keepM rfl (fun h j hj => upd_on (h j hj)), hR.w9.keepM rfl (fun h j hj => upd_on (h j hj)), hR.w10.keepM rfl (fun h j hj => upd_on (h j hj)), hR.w11.keepM rfl (fun h j hj => upd_on (h j hj)), hR.w12.keepM rfl (fun h j hj => upd_on (h j hj)), hR.w13.keepM rfl (fun h j hj => upd_on (h j hj)), hR.w14.keepM rfl (fun h j hj => upd_on (h j hj)), (fun _ j hj => upd_on (hw j hj)), hR.w16.keepM rfl (fun h j hj => upd_on (h j hj)), hR.w17.keepM rfl (fun h j hj => upd_on (h j hj)), hR.w18.keepM rfl (fun h j hj => upd_on (h j hj)), hR.w19.keepM rfl (fun h j hj => upd_on (h j hj)), hR.w20.keepM rfl (fun h j hj => upd_on (h j hj)), hR.w21.keepM rfl (fun h j hj => upd_on (h j hj))⟩⟩
    refine EachOf.cons [10, 15] rfl (by kernel_rfl) ?_ ?_
    · rintro L A W ⟨v, rfl, hR⟩ hi hw K hK
      have e15 := hR.f15 (hw 15 (by simp))
      have e10 := hR.f10 (hw 10 (by simp))
      simp only [e15, e10]
      clear e15 e10
      have q0 := (hR.st.cell (p := ⟨ab, p.n * 2, none⟩) LT0.out.2).trans LT0.out.1
      have q1 := (hR.st.cell (p := ⟨ab, p.n * 2 + 1, none⟩) LT1.out.2).trans LT1.out.1
      go_simp
      refine hK.out _ _ ?_
      exact ⟨(fun jz => if jz = 98 then .pointer (some ⟨ab, p.n * 2, none⟩) else if jz = 93 then .bool true else if jz = 99 then .agg #[.int .i64 a, .int .i64 d] else v jz), rfl, ⟨hR.st, hR.f0.keep rfl, hR.f1.keep rfl, hR.f2.keep rfl, hR.f3.keep rfl, hR.f4.keep rfl, hR.f5.keep rfl, hR.f6.keep rfl, hR.f7.keep rfl, hR.f8.keep rfl, hR.f9.keep rfl, (fun _ => rfl), hR.f11.keep rfl, hR.f12.keep rfl, hR.f13.keep rfl, hR.f14.keep rfl, (fun _ => rfl), (fun _ => rfl), hR.f17.keep rfl, hR.f18.keep rfl, hR.f19.keep rfl, hR.f20.keep rfl, hR.f21.keep rfl, hR.w2.keepM rfl (fun h j hj => upd_on (h j hj)), hR.w3.keepM rfl (fun h j hj => upd_on (h j hj)), hR.w4.keepM rfl (fun h j hj => upd_on (h j hj)), hR.w5.keepM rfl (fun h j hj => upd_on (h j hj)), hR.w6.keepM rfl (fun h j hj => upd_on (h j hj)), hR.w7.keepM rfl (fun h j hj => upd_on (h j hj)), hR.w8.keepM rfl (fun h j hj => upd_on (h j hj)), hR.w9.keepM rfl (fun h j hj => upd_on (h j hj)), hR.w10.keepM rfl (fun h j hj => upd_on (h j hj)), hR.w11.keepM rfl (fun h j hj => upd_on (h j hj)), hR.w12.keepM rfl (fun h j hj => upd_on (h j hj)), hR.w13.keepM rfl (fun h j hj => upd_on (h j hj)), hR.w14.keepM rfl (fun h j hj => upd_on (h j hj)), hR.w15.keepM rfl (fun h j hj => upd_on (h j hj)), (fun _ j hj => upd_on (hw j hj)), hR.w17.keepM rfl (fun h j hj => upd_on (h j hj)), hR.w18.keepM rfl (fun h j hj => upd_on (h j hj)), hR.w19.keepM rfl (fun h j hj => upd_on (h j hj)), hR.w20.keepM rfl (fun h j hj => upd_on (h j hj)), hR.w21.keepM rfl (fun h j hj => upd_on (h j hj))⟩⟩
    refine EachOf.cons [10] rfl (by kernel_rfl) ?_ ?_
    · rintro L A W ⟨v, rfl, hR⟩ hi hw K hK
      have e10 := hR.f10 (hw 10 (by simp))
      simp only [e10]
      clear e10
      go_simp
      refine hK.out _ _ ?_
      exact ⟨(fun jz => if jz = 93 then .bool true else if jz = 100 then .pointer (some ⟨kb, 0, none⟩) else v jz), rfl, ⟨hR.st, hR.f0.keep rfl, hR.f1.keep rfl, hR.f2.keep rfl, hR.f3.keep rfl, hR.f4.keep rfl, hR.f5.keep rfl, hR.f6.keep rfl, hR.f7.keep rfl, hR.f8.keep rfl, hR.f9.keep rfl, (fun _ => rfl), hR.f11.keep rfl, hR.f12.keep rfl, hR.f13.keep rfl, hR.f14.keep rfl, hR.f15.keep rfl, hR.f16.keep rfl, (fun _ => rfl), hR.f18.keep rfl, hR.f19.keep rfl, hR.f20.keep rfl, hR.f21.keep rfl, hR.w2.keepM rfl (fun h j hj => upd_on (h j hj)), hR.w3.keepM rfl (fun h j hj => upd_on (h j hj)), hR.w4.keepM rfl (fun h j hj => upd_on (h j hj)), hR.w5.keepM rfl (fun h j hj => upd_on (h j hj)), hR.w6.keepM rfl (fun h j hj => upd_on (h j hj)), hR.w7.keepM rfl (fun h j hj => upd_on (h j hj)), hR.w8.keepM rfl (fun h j hj => upd_on (h j hj)), hR.w9.keepM rfl (fun h j hj => upd_on (h j hj)), hR.w10.keepM rfl (fun h j hj => upd_on (h j hj)), hR.w11.keepM rfl (fun h j hj => upd_on (h j hj)), hR.w12.keepM rfl (fun h j hj => upd_on (h j hj)), hR.w13.keepM rfl (fun h j hj => upd_on (h j hj)), hR.w14.keepM rfl (fun h j hj => upd_on (h j hj)), hR.w15.keepM rfl (fun h j hj => upd_on (h j hj)), hR.w16.keepM rfl (fun h j hj => upd_on (h j hj)), (fun _ j hj => upd_on (hw j hj)), hR.w18.keepM rfl (fun h j hj => upd_on (h j hj)), hR.w19.keepM rfl (fun h j hj => upd_on (h j hj)), hR.w20.keepM rfl (fun h j hj => upd_on (h j hj)), hR.w21.keepM rfl (fun h j hj => upd_on (h j hj))⟩⟩
    refine EachOf.cons [10, 17] rfl (by kernel_rfl) ?_ ?_
    · rintro L A W ⟨v, rfl, hR⟩ hi hw K hK
      have e17 := hR.f17 (hw 17 (by simp))
      have e10 := hR.f10 (hw 10 (by simp))
      simp only [e17, e10]
      clear e17 e10
      have q0 := (hR.st.cell (p := ⟨kb, 0, none⟩) LV0.out.2).trans LV0.out.1
      have q1 := (hR.st.cell (p := ⟨kb, 1, none⟩) LV1.out.2).trans LV1.out.1
      go_simp
      refine hK.out _ _ ?_
      exact ⟨(fun jz => if jz = 100 then .pointer (some ⟨kb, 0, none⟩) else if jz = 93 then .bool true else if jz = 101 then .agg #[.int .i64 va, .int .i64 vd] else v jz), rfl, ⟨hR.st, hR.f0.keep rfl, hR.f1.keep rfl, hR.f2.keep rfl, hR.f3.keep rfl, hR.f4.keep rfl, hR.f5.keep rfl, hR.f6.keep rfl, hR.f7.keep rfl, hR.f8.keep rfl, hR.f9.keep rfl, (fun _ => rfl), hR.f11.keep rfl, hR.f12.keep rfl, hR.f13.keep rfl, hR.f14.keep rfl, hR.f15.keep rfl, hR.f16.keep rfl, (fun _ => rfl), (fun _ => rfl), hR.f19.keep rfl, hR.f20.keep rfl, hR.f21.keep rfl, hR.w2.keepM rfl (fun h j hj => upd_on (h j hj)), hR.w3.keepM rfl (fun h j hj => upd_on (h j hj)), hR.w4.keepM rfl (fun h j hj => upd_on (h j hj)), hR.w5.keepM rfl (fun h j hj => upd_on (h j hj)), hR.w6.keepM rfl (fun h j hj => upd_on (h j hj)), hR.w7.keepM rfl (fun h j hj => upd_on (h j hj)), hR.w8.keepM rfl (fun h j hj => upd_on (h j hj)), hR.w9.keepM rfl (fun h j hj => upd_on (h j hj)), hR.w10.keepM rfl (fun h j hj => upd_on (h j hj)), hR.w11.keepM rfl (fun h j hj => upd_on (h j hj)), hR.w12.keepM rfl (fun h j hj => upd_on (h j hj)), hR.w13.keepM rfl (fun h j hj => upd_on (h j hj)), hR.w14.keepM rfl (fun h j hj => upd_on (h j hj)), hR.w15.keepM rfl (fun h j hj => upd_on (h j hj)), hR.w16.keepM rfl (fun h j hj => upd_on (h j hj)), hR.w17.keepM rfl (fun h j hj => upd_on (h j hj)), (fun _ j hj => upd_on (hw j hj)), hR.w19.keepM rfl (fun h j hj => upd_on (h j hj)), hR.w20.keepM rfl (fun h j hj => upd_on (h j hj)), hR.w21.keepM rfl (fun h j hj => upd_on (h j hj))⟩⟩
    refine EachOf.cons [10, 16, 18] rfl (by kernel_rfl) ?_ ?_
    · rintro L A W ⟨v, rfl, hR⟩ hi hw K hK
      have e16 := hR.f16 (hw 16 (by simp))
      have e18 := hR.f18 (hw 18 (by simp))
      have e10 := hR.f10 (hw 10 (by simp))
      simp only [e16, e18, e10]
      clear e16 e18 e10
      go_simp
      rw [HIF.out]
      go_simp
      refine hK.out _ _ ?_
      exact ⟨(fun jz => if jz = 99 then .agg #[.int .i64 a, .int .i64 d] else if jz = 101 then .agg #[.int .i64 va, .int .i64 vd] else if jz = 93 then .bool true else if jz = 102 then .bool true else v jz), rfl, ⟨hR.st, hR.f0.keep rfl, hR.f1.keep rfl, hR.f2.keep rfl, hR.f3.keep rfl, hR.f4.keep rfl, hR.f5.keep rfl, hR.f6.keep rfl, hR.f7.keep rfl, hR.f8.keep rfl, hR.f9.keep rfl, (fun _ => rfl), hR.f11.keep rfl, hR.f12.keep rfl, hR.f13.keep rfl, hR.f14.keep rfl, hR.f15.keep rfl, (fun _ => rfl), hR.f17.keep rfl, (fun _ => rfl), (fun _ => rfl), hR.f20.keep rfl, hR.f21.keep rfl, hR.w2.keepM rfl (fun h j hj => upd_on (h j hj)), hR.w3.keepM rfl (fun h j hj => upd_on (h j hj)), hR.w4.keepM rfl (fun h j hj => upd_on (h j hj)), hR.w5.keepM rfl (fun h j hj => upd_on (h j hj)), hR.w6.keepM rfl (fun h j hj => upd_on (h j hj)), hR.w7.keepM rfl (fun h j hj => upd_on (h j hj)), hR.w8.keepM rfl (fun h j hj => upd_on (h j hj)), hR.w9.keepM rfl (fun h j hj => upd_on (h j hj)), hR.w10.keepM rfl (fun h j hj => upd_on (h j hj)), hR.w11.keepM rfl (fun h j hj => upd_on (h j hj)), hR.w12.keepM rfl (fun h j hj => upd_on (h j hj)), hR.w13.keepM rfl (fun h j hj => upd_on (h j hj)), hR.w14.keepM rfl (fun h j hj => upd_on (h j hj)), hR.w15.keepM rfl (fun h j hj => upd_on (h j hj)), hR.w16.keepM rfl (fun h j hj => upd_on (h j hj)), hR.w17.keepM rfl (fun h j hj => upd_on (h j hj)), hR.w18.keepM rfl (fun h j hj => upd_on (h j hj)), (fun _ j hj => upd_on (hw j hj)), hR.w20.keepM rfl (fun h j hj => upd_on (h j hj)), hR.w21.keepM rfl (fun h j hj => upd_on (h j hj))⟩⟩
    refine EachOf.cons [10, 19] rfl (by kernel_rfl) ?_ ?_
    · rintro L A W ⟨v, rfl, hR⟩ hi hw K hK
      have e10 := hR.f10 (hw 10 (by simp))
      have e19 := hR.f19 (hw 19 (by simp))
      simp only [e10, e19]
      clear e10 e19
      go_simp
      refine hK.out _ _ ?_
      exact ⟨(fun jz => if jz = 93 then .bool true else if jz = 102 then .bool true else if jz = 103 then .bool true else v jz), rfl, ⟨hR.st, hR.f0.keep rfl, hR.f1.keep rfl, hR.f2.keep rfl, hR.f3.keep rfl, hR.f4.keep rfl, hR.f5.keep rfl, hR.f6.keep rfl, hR.f7.keep rfl, hR.f8.keep rfl, hR.f9.keep rfl, (fun _ => rfl), hR.f11.keep rfl, hR.f12.keep rfl, hR.f13.keep rfl, hR.f14.keep rfl, hR.f15.keep rfl, hR.f16.keep rfl, hR.f17.keep rfl, hR.f18.keep rfl, (fun _ => rfl), (fun _ => rfl), hR.f21.keep rfl, hR.w2.keepM rfl (fun h j hj => upd_on (h j hj)), hR.w3.keepM rfl (fun h j hj => upd_on (h j hj)), hR.w4.keepM rfl (fun h j hj => upd_on (h j hj)), hR.w5.keepM rfl (fun h j hj => upd_on (h j hj)), hR.w6.keepM rfl (fun h j hj => upd_on (h j hj)), hR.w7.keepM rfl (fun h j hj => upd_on (h j hj)), hR.w8.keepM rfl (fun h j hj => upd_on (h j hj)), hR.w9.keepM rfl (fun h j hj => upd_on (h j hj)), hR.w10.keepM rfl (fun h j hj => upd_on (h j hj)), hR.w11.keepM rfl (fun h j hj => upd_on (h j hj)), hR.w12.keepM rfl (fun h j hj => upd_on (h j hj)), hR.w13.keepM rfl (fun h j hj => upd_on (h j hj)), hR.w14.keepM rfl (fun h j hj => upd_on (h j hj)), hR.w15.keepM rfl (fun h j hj => upd_on (h j hj)), hR.w16.keepM rfl (fun h j hj => upd_on (h j hj)), hR.w17.keepM rfl (fun h j hj => upd_on (h j hj)), hR.w18.keepM rfl (fun h j hj => upd_on (h j hj)), hR.w19.keepM rfl (fun h j hj => upd_on (h j hj)), (fun _ j hj => upd_on (hw j hj)), hR.w21.keepM rfl (fun h j hj => upd_on (h j hj))⟩⟩
    refine EachOf.cons [20] rfl (by kernel_rfl) ?_ ?_
    · rintro L A W ⟨v, rfl, hR⟩ hi hw K hK
      have e20 := hR.f20 (hw 20 (by simp))
      simp only [e20]
      clear e20
      go_simp
      refine hK.out _ _ ?_
      exact ⟨(fun jz => if jz = 103 then .bool true else if jz = 13 then .bool true else v jz), rfl, ⟨hR.st, hR.f0.keep rfl, hR.f1.keep rfl, hR.f2.keep rfl, hR.f3.keep rfl, hR.f4.keep rfl, hR.f5.keep rfl, hR.f6.keep rfl, hR.f7.keep rfl, hR.f8.keep rfl, hR.f9.keep rfl, hR.f10.keep rfl, hR.f11.keep rfl, hR.f12.keep rfl, hR.f13.keep rfl, hR.f14.keep rfl, hR.f15.keep rfl, hR.f16.keep rfl, hR.f17.keep rfl, hR.f18.keep rfl, hR.f19.keep rfl, (fun _ => rfl), (fun _ => rfl), hR.w2.keepM rfl (fun h j hj => upd_on (h j hj)), hR.w3.keepM rfl (fun h j hj => upd_on (h j hj)), hR.w4.keepM rfl (fun h j hj => upd_on (h j hj)), hR.w5.keepM rfl (fun h j hj => upd_on (h j hj)), hR.w6.keepM rfl (fun h j hj => upd_on (h j hj)), hR.w7.keepM rfl (fun h j hj => upd_on (h j hj)), hR.w8.keepM rfl (fun h j hj => upd_on (h j hj)), hR.w9.keepM rfl (fun h j hj => upd_on (h j hj)), hR.w10.keepM rfl (fun h j hj => upd_on (h j hj)), hR.w11.keepM rfl (fun h j hj => upd_on (h j hj)), hR.w12.keepM rfl (fun h j hj => upd_on (h j hj)), hR.w13.keepM rfl (fun h j hj => upd_on (h j hj)), hR.w14.keepM rfl (fun h j hj => upd_on (h j hj)), hR.w15.keepM rfl (fun h j hj => upd_on (h j hj)), hR.w16.keepM rfl (fun h j hj => upd_on (h j hj)), hR.w17.keepM rfl (fun h j hj => upd_on (h j hj)), hR.w18.keepM rfl (fun h j hj => upd_on (h j hj)), hR.w19.keepM rfl (fun h j hj => upd_on (h j hj)), hR.w20.keepM rfl (fun h j hj => upd_on (h j hj)), (fun _ j hj => upd_on (hw j hj))⟩⟩
    exact EachOf.nil
  rintro L A W ⟨v, rfl, hR⟩ hL
  have e21 := hR.f21 (hL 21 (by simp))
  simp only [e21]
  have HVB := Lib.hid (HVB.out.on hR.st)
  have HKB := Lib.hid (HKB.out.on hR.st)
  have HB := Lib.hid (below_on HB.out hR.st)
  clear e21 hR hL C1 C2 LP0 LP1 LY LV0 LV1 LT0 LT1 HXB
  obtain ⟨_, b0, b1⟩ := HVB.out
  have k0 := HKB.out.c0
  have k1 := HKB.out.c1
  cases fv
  · have hno : ¬ ChkR p va vd X Y := fun h => by have := HFF.out.2 h.fea; cases this
    go_wp2_with fail
    go_ret2
    (first | exact ⟨HB.out, false, 0, rfl, .inr (.inr (.inr ⟨hok, HFV.out.1, HFV.out.2.1, HFV.out.2.2, rfl, rfl, HCF.out, ⟨fun h => (by cases h), fun h => absurd h hno⟩, rfl⟩))⟩ | exact ⟨HB.out, .inl ⟨0, rfl, .inr (.inr (.inr ⟨hok, HFV.out.1, HFV.out.2.1, HFV.out.2.2, rfl, rfl, HCF.out, ⟨fun h => (by cases h), fun h => absurd h hno⟩, rfl⟩))⟩⟩)
  · by_cases h1 : ra = va
    · by_cases h2 : rd = vd
      · have hyes : ChkR p va vd X Y := ⟨HFF.out.1 (by trivial), by rw [← h1, ← h2]; exact HVO.out.symm, HV1.out.1 (by trivial), HV2.out.1 (by trivial), by rw [← HHAD.out.1, ← HHAD.out.2]; exact HAD.out⟩
        have HY2 := Lib.hid hyes
        clear hyes
        go_wp2_with fail
        go_ret2
        have hyes := HY2.out
        (first | exact ⟨HB.out, true, 0, rfl, .inr (.inr (.inr ⟨hok, HFV.out.1, HFV.out.2.1, HFV.out.2.2, rfl, rfl, HCF.out, ⟨fun _ => hyes, fun _ => rfl⟩, rfl⟩))⟩ | exact ⟨HB.out, .inr ⟨0, rfl, .inr (.inr (.inr ⟨hok, HFV.out.1, HFV.out.2.1, HFV.out.2.2, rfl, rfl, HCF.out, ⟨fun _ => hyes, fun _ => rfl⟩, rfl⟩))⟩⟩)
      · have hno : ¬ ChkR p va vd X Y := fun h => by
          have := h.val
          rw [← HVO.out] at this
          exact h2 (three this).2.1
        have HN2 := Lib.hid hno
        clear hno
        go_wp2_with fail
        go_ret2
        have hno := HN2.out
        (first | exact ⟨HB.out, false, 0, rfl, .inr (.inr (.inr ⟨hok, HFV.out.1, HFV.out.2.1, HFV.out.2.2, rfl, rfl, HCF.out, ⟨fun h => (by cases h), fun h => absurd h hno⟩, rfl⟩))⟩ | exact ⟨HB.out, .inl ⟨0, rfl, .inr (.inr (.inr ⟨hok, HFV.out.1, HFV.out.2.1, HFV.out.2.2, rfl, rfl, HCF.out, ⟨fun h => (by cases h), fun h => absurd h hno⟩, rfl⟩))⟩⟩)
    · have hno : ¬ ChkR p va vd X Y := fun h => by
        have := h.val
        rw [← HVO.out] at this
        exact h1 (three this).1
      have HN2 := Lib.hid hno
      clear hno
      go_wp2_with fail
      go_ret2
      have hno := HN2.out
      (first | exact ⟨HB.out, false, 0, rfl, .inr (.inr (.inr ⟨hok, HFV.out.1, HFV.out.2.1, HFV.out.2.2, rfl, rfl, HCF.out, ⟨fun h => (by cases h), fun h => absurd h hno⟩, rfl⟩))⟩ | exact ⟨HB.out, .inl ⟨0, rfl, .inr (.inr (.inr ⟨hok, HFV.out.1, HFV.out.2.1, HFV.out.2.2, rfl, rfl, HCF.out, ⟨fun h => (by cases h), fun h => absurd h hno⟩, rfl⟩))⟩⟩)
end Go.Proofs.Ytibciljoanicfaa
