/- What math/bits.Len64 returns, for all words. No condition but that the number fits its kind. -/
import Derived.Test.YtjkfddjmldckeaaDoorProg
import Derived.WalkKit
import Derived.Lib.Strings
import Derived.Lib.Slices
import Derived.Lib.Small
import Derived.Lib.Walk
import Derived.Lib.BitFns
import Derived.Lib.Hide
namespace Go.Proofs.YtjkfddjmldckeaaDoor
open Go.RowKit
set_option linter.unusedVariables false
set_option maxHeartbeats 400000 in
set_option maxRecDepth 100000 in
theorem len64_000 (x : Int) (w : World) (h0 : 0 ≤ x) (h1 : x ≤ 18446744073709551615) (ha : x < 4294967296) (hb : x < 65536) (hc : x < 256) :
    Calls Tryd.prog 27 #[.int .u64 x] w fun e w' => e = .returned (.int .i64 (Lib.bitLen x.toNat)) ∧ w' = w := by
  have k0 : 0 ≤ x := by omega
  have k1 : x ≤ 255 := by omega
  have HB : Hid (Lib.len8 (x) + 0 = ((Lib.bitLen x.toNat : Nat) : Int)) := by
    unfold Hid
    rw [Lib.len8_of (x) k0 k1]
    have e : (x).toNat = x.toNat := by omega
    have l := Lib.bitLen_le8' (x) k0 k1
    rw [e] at l ⊢
    omega
  have HL : Hid (0 ≤ Lib.len8 (x) ∧ Lib.len8 (x) ≤ 8) := by
    unfold Hid
    rw [Lib.len8_of (x) k0 k1]
    have l := Lib.bitLen_le8' (x) k0 k1
    omega
  go_enter Tryd.func27, Tryd.ntmps27
  go_wp2
  go_ret
  obtain ⟨l0, l1⟩ := HL.out
  refine ⟨congrArg Ending.returned (congrArg (Value.int IntKind.i64) ?_), rfl⟩
  rw [← HB.out]
  generalize Lib.len8 (x) = G at *
  simp only [RowKit.wrap64]
  omega
set_option maxHeartbeats 400000 in
set_option maxRecDepth 100000 in
theorem len64_001 (x : Int) (w : World) (h0 : 0 ≤ x) (h1 : x ≤ 18446744073709551615) (ha : x < 4294967296) (hb : x < 65536) (hc : 256 ≤ x) :
    Calls Tryd.prog 27 #[.int .u64 x] w fun e w' => e = .returned (.int .i64 (Lib.bitLen x.toNat)) ∧ w' = w := by
  have k0 : 0 ≤ x / 256 := by omega
  have k1 : x / 256 ≤ 255 := by omega
  have HB : Hid (Lib.len8 (x / 256) + 8 = ((Lib.bitLen x.toNat : Nat) : Int)) := by
    unfold Hid
    rw [Lib.len8_of (x / 256) k0 k1]
    have e : (x / 256).toNat = x.toNat / 256 := by omega
    have l := Lib.bitLen_le8' (x / 256) k0 k1
    have s := Lib.bitLen_shift8 x.toNat (by omega) (by omega)
    rw [e] at l ⊢
    omega
  have HL : Hid (0 ≤ Lib.len8 (x / 256) ∧ Lib.len8 (x / 256) ≤ 8) := by
    unfold Hid
    rw [Lib.len8_of (x / 256) k0 k1]
    have l := Lib.bitLen_le8' (x / 256) k0 k1
    omega
  go_enter Tryd.func27, Tryd.ntmps27
  go_wp2
  go_ret
  obtain ⟨l0, l1⟩ := HL.out
  refine ⟨congrArg Ending.returned (congrArg (Value.int IntKind.i64) ?_), rfl⟩
  rw [← HB.out]
  generalize Lib.len8 (x / 256) = G at *
  simp only [RowKit.wrap64]
  omega
set_option maxHeartbeats 400000 in
set_option maxRecDepth 100000 in
theorem len64_010 (x : Int) (w : World) (h0 : 0 ≤ x) (h1 : x ≤ 18446744073709551615) (ha : x < 4294967296) (hb : 65536 ≤ x) (hc : x / 65536 < 256) :
    Calls Tryd.prog 27 #[.int .u64 x] w fun e w' => e = .returned (.int .i64 (Lib.bitLen x.toNat)) ∧ w' = w := by
  have k0 : 0 ≤ x / 65536 := by omega
  have k1 : x / 65536 ≤ 255 := by omega
  have HB : Hid (Lib.len8 (x / 65536) + 16 = ((Lib.bitLen x.toNat : Nat) : Int)) := by
    unfold Hid
    rw [Lib.len8_of (x / 65536) k0 k1]
    have e : (x / 65536).toNat = x.toNat / 65536 := by omega
    have l := Lib.bitLen_le8' (x / 65536) k0 k1
    have s := Lib.bitLen_shift16 x.toNat (by omega) (by omega)
    rw [e] at l ⊢
    omega
  have HL : Hid (0 ≤ Lib.len8 (x / 65536) ∧ Lib.len8 (x / 65536) ≤ 8) := by
    unfold Hid
    rw [Lib.len8_of (x / 65536) k0 k1]
    have l := Lib.bitLen_le8' (x / 65536) k0 k1
    omega
  go_enter Tryd.func27, Tryd.ntmps27
  go_wp2
  go_ret
  obtain ⟨l0, l1⟩ := HL.out
  refine ⟨congrArg Ending.returned (congrArg (Value.int IntKind.i64) ?_), rfl⟩
  rw [← HB.out]
  generalize Lib.len8 (x / 65536) = G at *
  simp only [RowKit.wrap64]
  omega
set_option maxHeartbeats 400000 in
set_option maxRecDepth 100000 in
theorem len64_011 (x : Int) (w : World) (h0 : 0 ≤ x) (h1 : x ≤ 18446744073709551615) (ha : x < 4294967296) (hb : 65536 ≤ x) (hc : 256 ≤ x / 65536) :
    Calls Tryd.prog 27 #[.int .u64 x] w fun e w' => e = .returned (.int .i64 (Lib.bitLen x.toNat)) ∧ w' = w := by
  have k0 : 0 ≤ x / 65536 / 256 := by omega
  have k1 : x / 65536 / 256 ≤ 255 := by omega
  have HB : Hid (Lib.len8 (x / 65536 / 256) + 24 = ((Lib.bitLen x.toNat : Nat) : Int)) := by
    unfold Hid
    rw [Lib.len8_of (x / 65536 / 256) k0 k1]
    have e : (x / 65536 / 256).toNat = x.toNat / 16777216 := by omega
    have l := Lib.bitLen_le8' (x / 65536 / 256) k0 k1
    have s := Lib.bitLen_shift24 x.toNat (by omega) (by omega)
    rw [e] at l ⊢
    omega
  have HL : Hid (0 ≤ Lib.len8 (x / 65536 / 256) ∧ Lib.len8 (x / 65536 / 256) ≤ 8) := by
    unfold Hid
    rw [Lib.len8_of (x / 65536 / 256) k0 k1]
    have l := Lib.bitLen_le8' (x / 65536 / 256) k0 k1
    omega
  go_enter Tryd.func27, Tryd.ntmps27
  go_wp2
  go_ret
  obtain ⟨l0, l1⟩ := HL.out
  refine ⟨congrArg Ending.returned (congrArg (Value.int IntKind.i64) ?_), rfl⟩
  rw [← HB.out]
  generalize Lib.len8 (x / 65536 / 256) = G at *
  simp only [RowKit.wrap64]
  omega
set_option maxHeartbeats 400000 in
set_option maxRecDepth 100000 in
theorem len64_100 (x : Int) (w : World) (h0 : 0 ≤ x) (h1 : x ≤ 18446744073709551615) (ha : 4294967296 ≤ x) (hb : x / 4294967296 < 65536) (hc : x / 4294967296 < 256) :
    Calls Tryd.prog 27 #[.int .u64 x] w fun e w' => e = .returned (.int .i64 (Lib.bitLen x.toNat)) ∧ w' = w := by
  have k0 : 0 ≤ x / 4294967296 := by omega
  have k1 : x / 4294967296 ≤ 255 := by omega
  have HB : Hid (Lib.len8 (x / 4294967296) + 32 = ((Lib.bitLen x.toNat : Nat) : Int)) := by
    unfold Hid
    rw [Lib.len8_of (x / 4294967296) k0 k1]
    have e : (x / 4294967296).toNat = x.toNat / 4294967296 := by omega
    have l := Lib.bitLen_le8' (x / 4294967296) k0 k1
    have s := Lib.bitLen_shift32 x.toNat (by omega) (by omega)
    rw [e] at l ⊢
    omega
  have HL : Hid (0 ≤ Lib.len8 (x / 4294967296) ∧ Lib.len8 (x / 4294967296) ≤ 8) := by
    unfold Hid
    rw [Lib.len8_of (x / 4294967296) k0 k1]
    have l := Lib.bitLen_le8' (x / 4294967296) k0 k1
    omega
  go_enter Tryd.func27, Tryd.ntmps27
  go_wp2
  go_ret
  obtain ⟨l0, l1⟩ := HL.out
  refine ⟨congrArg Ending.returned (congrArg (Value.int IntKind.i64) ?_), rfl⟩
  rw [← HB.out]
  generalize Lib.len8 (x / 4294967296) = G at *
  simp only [RowKit.wrap64]
  omega
set_option maxHeartbeats 400000 in
set_option maxRecDepth 100000 in
theorem len64_101 (x : Int) (w : World) (h0 : 0 ≤ x) (h1 : x ≤ 18446744073709551615) (ha : 4294967296 ≤ x) (hb : x / 4294967296 < 65536) (hc : 256 ≤ x / 4294967296) :
    Calls Tryd.prog 27 #[.int .u64 x] w fun e w' => e = .returned (.int .i64 (Lib.bitLen x.toNat)) ∧ w' = w := by
  have k0 : 0 ≤ x / 4294967296 / 256 := by omega
  have k1 : x / 4294967296 / 256 ≤ 255 := by omega
  have HB : Hid (Lib.len8 (x / 4294967296 / 256) + 40 = ((Lib.bitLen x.toNat : Nat) : Int)) := by
    unfold Hid
    rw [Lib.len8_of (x / 4294967296 / 256) k0 k1]
    have e : (x / 4294967296 / 256).toNat = x.toNat / 1099511627776 := by omega
    have l := Lib.bitLen_le8' (x / 4294967296 / 256) k0 k1
    have s := Lib.bitLen_shift40 x.toNat (by omega) (by omega)
    rw [e] at l ⊢
    omega
  have HL : Hid (0 ≤ Lib.len8 (x / 4294967296 / 256) ∧ Lib.len8 (x / 4294967296 / 256) ≤ 8) := by
    unfold Hid
    rw [Lib.len8_of (x / 4294967296 / 256) k0 k1]
    have l := Lib.bitLen_le8' (x / 4294967296 / 256) k0 k1
    omega
  go_enter Tryd.func27, Tryd.ntmps27
  go_wp2
  go_ret
  obtain ⟨l0, l1⟩ := HL.out
  refine ⟨congrArg Ending.returned (congrArg (Value.int IntKind.i64) ?_), rfl⟩
  rw [← HB.out]
  generalize Lib.len8 (x / 4294967296 / 256) = G at *
  simp only [RowKit.wrap64]
  omega
set_option maxHeartbeats 400000 in
set_option maxRecDepth 100000 in
theorem len64_110 (x : Int) (w : World) (h0 : 0 ≤ x) (h1 : x ≤ 18446744073709551615) (ha : 4294967296 ≤ x) (hb : 65536 ≤ x / 4294967296) (hc : x / 4294967296 / 65536 < 256) :
    Calls Tryd.prog 27 #[.int .u64 x] w fun e w' => e = .returned (.int .i64 (Lib.bitLen x.toNat)) ∧ w' = w := by
  have k0 : 0 ≤ x / 4294967296 / 65536 := by omega
  have k1 : x / 4294967296 / 65536 ≤ 255 := by omega
  have HB : Hid (Lib.len8 (x / 4294967296 / 65536) + 48 = ((Lib.bitLen x.toNat : Nat) : Int)) := by
    unfold Hid
    rw [Lib.len8_of (x / 4294967296 / 65536) k0 k1]
    have e : (x / 4294967296 / 65536).toNat = x.toNat / 281474976710656 := by omega
    have l := Lib.bitLen_le8' (x / 4294967296 / 65536) k0 k1
    have s := Lib.bitLen_shift48 x.toNat (by omega) (by omega)
    rw [e] at l ⊢
    omega
  have HL : Hid (0 ≤ Lib.len8 (x / 4294967296 / 65536) ∧ Lib.len8 (x / 4294967296 / 65536) ≤ 8) := by
    unfold Hid
    rw [Lib.len8_of (x / 4294967296 / 65536) k0 k1]
    have l := Lib.bitLen_le8' (x / 4294967296 / 65536) k0 k1
    omega
  go_enter Tryd.func27, Tryd.ntmps27
  go_wp2
  go_ret
  obtain ⟨l0, l1⟩ := HL.out
  refine ⟨congrArg Ending.returned (congrArg (Value.int IntKind.i64) ?_), rfl⟩
  rw [← HB.out]
  generalize Lib.len8 (x / 4294967296 / 65536) = G at *
  simp only [RowKit.wrap64]
  omega
set_option maxHeartbeats 400000 in
set_option maxRecDepth 100000 in
theorem len64_111 (x : Int) (w : World) (h0 : 0 ≤ x) (h1 : x ≤ 18446744073709551615) (ha : 4294967296 ≤ x) (hb : 65536 ≤ x / 4294967296) (hc : 256 ≤ x / 4294967296 / 65536) :
    Calls Tryd.prog 27 #[.int .u64 x] w fun e w' => e = .returned (.int .i64 (Lib.bitLen x.toNat)) ∧ w' = w := by
  have k0 : 0 ≤ x / 4294967296 / 65536 / 256 := by omega
  have k1 : x / 4294967296 / 65536 / 256 ≤ 255 := by omega
  have HB : Hid (Lib.len8 (x / 4294967296 / 65536 / 256) + 56 = ((Lib.bitLen x.toNat : Nat) : Int)) := by
    unfold Hid
    rw [Lib.len8_of (x / 4294967296 / 65536 / 256) k0 k1]
    have e : (x / 4294967296 / 65536 / 256).toNat = x.toNat / 72057594037927936 := by omega
    have l := Lib.bitLen_le8' (x / 4294967296 / 65536 / 256) k0 k1
    have s := Lib.bitLen_shift56 x.toNat (by omega) (by omega)
    rw [e] at l ⊢
    omega
  have HL : Hid (0 ≤ Lib.len8 (x / 4294967296 / 65536 / 256) ∧ Lib.len8 (x / 4294967296 / 65536 / 256) ≤ 8) := by
    unfold Hid
    rw [Lib.len8_of (x / 4294967296 / 65536 / 256) k0 k1]
    have l := Lib.bitLen_le8' (x / 4294967296 / 65536 / 256) k0 k1
    omega
  go_enter Tryd.func27, Tryd.ntmps27
  go_wp2
  go_ret
  obtain ⟨l0, l1⟩ := HL.out
  refine ⟨congrArg Ending.returned (congrArg (Value.int IntKind.i64) ?_), rfl⟩
  rw [← HB.out]
  generalize Lib.len8 (x / 4294967296 / 65536 / 256) = G at *
  simp only [RowKit.wrap64]
  omega
theorem len64_any (x : Int) (w : World) (h0 : 0 ≤ x) (h1 : x ≤ 18446744073709551615) :
    Calls Tryd.prog 27 #[.int .u64 x] w fun e w' => e = .returned (.int .i64 (Lib.bitLen x.toNat)) ∧ w' = w := by
  rcases Int.lt_or_le x 4294967296 with a | a
  · rcases Int.lt_or_le (x) 65536 with b | b
    · rcases Int.lt_or_le (x) 256 with c | c
      · exact len64_000 x w h0 h1 a b c
      · exact len64_001 x w h0 h1 a b c
    · rcases Int.lt_or_le (x / 65536) 256 with c | c
      · exact len64_010 x w h0 h1 a b c
      · exact len64_011 x w h0 h1 a b c
  · rcases Int.lt_or_le (x / 4294967296) 65536 with b | b
    · rcases Int.lt_or_le (x / 4294967296) 256 with c | c
      · exact len64_100 x w h0 h1 a b c
      · exact len64_101 x w h0 h1 a b c
    · rcases Int.lt_or_le (x / 4294967296 / 65536) 256 with c | c
      · exact len64_110 x w h0 h1 a b c
      · exact len64_111 x w h0 h1 a b c
end Go.Proofs.YtjkfddjmldckeaaDoor
