/- What math/bits.OnesCount64 returns: the walk. No condition but that the number has 64 bits. -/
import Derived.Test.YtnodeojeijekcaaGreatGB25
namespace Go.Proofs.YtnodeojeijekcaaGreat
open Go.RowKit
set_option linter.unusedVariables false

set_option maxHeartbeats 2000000 in
theorem sums (a0 a1 a2 a3 a4 a5 a6 a7 : Nat) (h0 : a0 ≤ 8) (h1 : a1 ≤ 8) (h2 : a2 ≤ 8) (h3 : a3 ≤ 8) (h4 : a4 ≤ 8) (h5 : a5 ≤ 8) (h6 : a6 ≤ 8) (h7 : a7 ≤ 8) :
    ∃ x3 x4 x5 x6 : Nat, val [a0, a1, a2, a3, a4, a5, a6, a7] = x3 ∧ x3 + x3 / 256 = x4 ∧ x4 + x4 / 65536 = x5 ∧ x5 + x5 / 4294967296 = x6 ∧ x3 < 1152921504606846976 ∧ x4 < 2305843009213693952 ∧ x5 < 4611686018427387904 ∧ x6 < 9223372036854775808 ∧ x6 % 128 = a0 + a1 + a2 + a3 + a4 + a5 + a6 + a7 := by
  have e3 : val [a0, a1, a2, a3, a4, a5, a6, a7] = a0 + 256 * (a1 + 256 * (a2 + 256 * (a3 + 256 * (a4 + 256 * (a5 + 256 * (a6 + 256 * a7)))))) := by
    simp only [val]
    omega
  obtain ⟨x3, hx3⟩ : ∃ x3, x3 = a0 + 256 * (a1 + 256 * (a2 + 256 * (a3 + 256 * (a4 + 256 * (a5 + 256 * (a6 + 256 * a7)))))) := ⟨_, rfl⟩
  obtain ⟨U, hU⟩ : ∃ U, U = (a2 + a3) + 256 * (a3 + a4) + 65536 * (a4 + a5) + 16777216 * (a5 + a6) + 4294967296 * (a6 + a7) + 1099511627776 * a7 := ⟨_, rfl⟩
  obtain ⟨V, hV⟩ : ∃ V, V = (a4 + a5 + a6 + a7) + 256 * (a5 + a6 + a7) + 65536 * (a6 + a7) + 16777216 * a7 := ⟨_, rfl⟩
  have e4 : x3 / 256 = a1 + 256 * (a2 + 256 * (a3 + 256 * (a4 + 256 * (a5 + 256 * (a6 + 256 * a7))))) := by omega
  obtain ⟨x4, hx4⟩ : ∃ x4, x4 = (a0 + a1) + 256 * (a1 + a2) + 65536 * U := ⟨_, rfl⟩
  have f4 : x3 + x3 / 256 = x4 := by rw [e4]; omega
  have e5 : x4 / 65536 = U := by omega
  obtain ⟨x5, hx5⟩ : ∃ x5, x5 = (a0 + a1 + a2 + a3) + 256 * (a1 + a2 + a3 + a4) + 65536 * (a2 + a3 + a4 + a5) + 16777216 * (a3 + a4 + a5 + a6) + 4294967296 * V := ⟨_, rfl⟩
  have f5 : x4 + x4 / 65536 = x5 := by rw [e5]; omega
  have e6 : x5 / 4294967296 = V := by omega
  have g3 : x3 < 1152921504606846976 := by omega
  have g4 : x4 < 2305843009213693952 := by omega
  have g5 : x5 < 4611686018427387904 := by omega
  have hV2 : V ≤ 134744072 * 32 := by omega
  have g6 : x5 + V < 9223372036854775808 := by omega
  have g7 : (x5 + V) % 128 = a0 + a1 + a2 + a3 + a4 + a5 + a6 + a7 := by
    clear e3 hx3 e4 hU hx4 f4 e5 f5 e6 g3 g4 g5 hV2 g6
    omega
  exact ⟨x3, x4, x5, x5 + V, by rw [e3, hx3], f4, f5, by rw [e6], g3, g4, g5, g6, g7⟩


def onesI (x : Int) : Int := ((cnt x.toNat 64 : Nat) : Int)
theorem ones_facts (x : Int) (hx : U64 x) : ∃ X1 X2 Z X3 X4 X5 X6 : Int, IntKind.u64.wrap (bits .and .u64 (x / 2) 6148914691236517205 + bits .and .u64 x 6148914691236517205) = X1 ∧
    IntKind.u64.wrap (bits .and .u64 (X1 / 4) 3689348814741910323 + bits .and .u64 X1 3689348814741910323) = X2 ∧ IntKind.u64.wrap (X2 / 16 + X2) = Z ∧ bits .and .u64 Z 1085102592571150095 = X3 ∧
    IntKind.u64.wrap (X3 + X3 / 256) = X4 ∧ IntKind.u64.wrap (X4 + X4 / 65536) = X5 ∧ IntKind.u64.wrap (X5 + X5 / 4294967296) = X6 ∧ 0 ≤ X6 ∧ X6 ≤ 9223372036854775807 ∧ bits .and .i64 X6 127 = onesI x := by
  obtain ⟨X, rfl⟩ := Int.eq_ofNat_of_zero_le hx.1
  have hX : X < 2 ^ 64 := by have := hx.2; omega
  obtain ⟨x1, x2, x3, h1, h2, h3, b1, b2, h4⟩ := three X hX
  have hs := small_bytes8 X
  have hc : ∀ c ∈ bytes8 X, cnt c 8 ≤ 8 := fun c hc => (st_all ⟨c, hs c hc⟩).2.2.2.2
  have hcnt : cnt X 64 = ((bytes8 X).map fun c => cnt c 8).sum := by
    have h := cnt_val (bytes8 X) hs
    rw [val_bytes8 X hX] at h
    exact h
  simp only [bytes8, List.map_cons, List.map_nil, List.sum_cons, List.sum_nil] at hcnt h4
  simp only [bytes8, List.mem_cons, List.not_mem_nil, or_false, forall_eq_or_imp, forall_eq] at hc
  obtain ⟨d0, d1, d2, d3, d4, d5, d6, d7⟩ := hc
  generalize cnt (X % 256) 8 = a0 at *
  generalize cnt (X / 256 % 256) 8 = a1 at *
  generalize cnt (X / 65536 % 256) 8 = a2 at *
  generalize cnt (X / 16777216 % 256) 8 = a3 at *
  generalize cnt (X / 4294967296 % 256) 8 = a4 at *
  generalize cnt (X / 1099511627776 % 256) 8 = a5 at *
  generalize cnt (X / 281474976710656 % 256) 8 = a6 at *
  generalize cnt (X / 72057594037927936 % 256) 8 = a7 at *
  obtain ⟨y3, x4, x5, x6, e3, e4, e5, e6, l3, l4, l5, l6, e7⟩ := sums a0 a1 a2 a3 a4 a5 a6 a7 d0 d1 d2 d3 d4 d5 d6 d7
  rw [e3] at h4
  subst h4
  have hone : cnt X 64 = x6 % 128 := by rw [e7]; omega
  refine ⟨(x1 : Nat), (x2 : Nat), ((x2 / 16 + x2 : Nat) : Int), (x3 : Nat), (x4 : Nat), (x5 : Nat), (x6 : Nat), ?_, ?_, ?_, ?_, ?_, ?_, ?_, by omega, by omega, ?_⟩
  · rw [show ((X : Int) / 2) = ((X / 2 : Nat) : Int) from rfl, show (6148914691236517205 : Int) = ((6148914691236517205 : Nat) : Int) from rfl, bits_and_u64_nat _ _ (by omega) (by decide), bits_and_u64_nat _ _ (by omega) (by decide), IntKind.wrap_u64]
    omega
  · rw [show ((x1 : Int) / 4) = ((x1 / 4 : Nat) : Int) from rfl, show (3689348814741910323 : Int) = ((3689348814741910323 : Nat) : Int) from rfl, bits_and_u64_nat _ _ (by omega) (by decide), bits_and_u64_nat _ _ (by omega) (by decide), IntKind.wrap_u64]
    omega
  · rw [IntKind.wrap_u64]
    omega
  · rw [show (1085102592571150095 : Int) = ((1085102592571150095 : Nat) : Int) from rfl, bits_and_u64_nat _ _ (by omega) (by decide), h3]
  · rw [IntKind.wrap_u64]
    omega
  · rw [IntKind.wrap_u64]
    omega
  · rw [IntKind.wrap_u64]
    omega
  · unfold onesI
    rw [Int.toNat_natCast, hone]
    have ha : (BitVec.ofInt 64 (x6 : Int)).toNat = x6 := by
      rw [BitVec.ofInt_natCast, BitVec.toNat_ofNat]
      exact Nat.mod_eq_of_lt (by omega)
    show IntKind.i64.wrap ((BitVec.ofInt 64 (x6 : Int) &&& BitVec.ofInt 64 127).toNat : Int) = _
    rw [BitVec.toNat_and, ha, show (BitVec.ofInt 64 127).toNat = 2 ^ 7 - 1 from by decide, Nat.and_two_pow_sub_one_eq_mod]
    exact IntWalk.i64_in _ (by omega)

set_option maxHeartbeats 1000000 in
theorem onesCount_any (x : Int) (w : World) (hx : U64 x) :
    Calls Tryz.prog 81 #[.int .u64 x] w fun e w' => e = .returned (.int .i64 (onesI x)) ∧ Quiet w w' := by
  obtain ⟨X1, X2, Z, X3, X4, X5, X6, r1, r2, r3, r4, r5, r6, r7, b0, b1, r8⟩ := ones_facts x hx
  have r9 : IntKind.i64.wrap X6 = X6 := IntWalk.i64_in _ (by omega)
  rw [← r8]
  clear r8
  go_enter Tryz.func81, Tryz.ntmps81
  go_wp2
  go_ret
  exact ⟨rfl, Quiet.refl _⟩
end Go.Proofs.YtnodeojeijekcaaGreat
