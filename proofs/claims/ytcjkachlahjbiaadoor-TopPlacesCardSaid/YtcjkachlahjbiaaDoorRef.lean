/- What the document's answers of layer 1 return: Power, Bit, Field, Get, Put. No condition but that each number fits its kind. -/
import Derived.Test.YtcjkachlahjbiaaDoorQuiet
namespace Go.Proofs.YtcjkachlahjbiaaDoor
open Go.RowKit

def powI (i : Int) : Int := ((2 ^ i.toNat : Nat) : Int)
theorem powI_U64 (i : Int) (h : i ≤ 63) : U64 (powI i) := by
  refine U64.nat _ ?_
  exact Nat.pow_lt_pow_right (by decide) (by omega)
theorem powI_succ (j : Nat) (h : j < 63) : IntKind.u64.wrap (powI j * 2) = powI (j + 1) := by
  have h1 : 2 ^ (j + 1) < 2 ^ 64 := Nat.pow_lt_pow_right (by decide) (by omega)
  have e : powI (j + 1) = ((2 ^ (j + 1) : Nat) : Int) := rfl
  rw [e, IntKind.wrap_u64]
  unfold powI
  rw [Int.toNat_natCast]
  have : (2 : Nat) ^ (j + 1) = 2 ^ j * 2 := Nat.pow_succ ..
  omega
/-- bit i of x, as a number -/
def bitI (x i : Int) : Int := (((x.toNat.testBit i.toNat).toNat : Nat) : Int)
theorem bitI_eq (x : Int) (i : Int) (hx : U64 x) : x / powI i % 2 = bitI x i := by
  obtain ⟨X, rfl⟩ := Int.eq_ofNat_of_zero_le hx.1
  unfold powI bitI
  rw [Int.toNat_natCast, Nat.toNat_testBit, ← Int.natCast_ediv]
  rfl
theorem bitI_01 (x i : Int) : bitI x i = 0 ∨ bitI x i = 1 := by
  unfold bitI
  cases x.toNat.testBit i.toNat <;> simp
theorem powI_pos (i : Int) : 1 ≤ powI i := by
  unfold powI
  have := Nat.two_pow_pos i.toNat
  omega
/-! a word put together bit by bit -/
theorem getN_succ (x a j : Nat) : getN x a (j + 1) = getN x a j + (x.testBit (a + j)).toNat * 2 ^ j := by
  unfold getN
  rw [Nat.mod_pow_succ, ← Nat.toNat_testBit, Nat.testBit_shiftRight, Nat.mul_comm]
theorem sum_step (x : Int) (a j : Nat) (hj : j < 64) : IntKind.u64.wrap (bitI x (a + j) * powI j) = bitI x (a + j) * powI j ∧ IntKind.u64.wrap (getI x a j + bitI x (a + j) * powI j) = getI x a (j + 1 : Nat) := by
  have h1 := getN_succ x.toNat a j
  have h2 := getN_lt x.toNat a (j + 1)
  have h3 : 2 ^ (j + 1) ≤ 2 ^ 64 := Nat.pow_le_pow_right (by decide) (by omega)
  have e1 : bitI x (a + j) * powI j = (((x.toNat.testBit (a + j)).toNat * 2 ^ j : Nat) : Int) := by
    unfold bitI powI
    rw [show ((a : Int) + (j : Int)).toNat = a + j by omega, Int.toNat_natCast, Int.natCast_mul]
  have e2 : getI x a j = ((getN x.toNat a j : Nat) : Int) := by
    unfold getI
    rw [Int.toNat_natCast, Int.toNat_natCast]
  have e3 : getI x a (j + 1 : Nat) = ((getN x.toNat a (j + 1) : Nat) : Int) := by
    unfold getI
    rw [Int.toNat_natCast, Int.toNat_natCast]
  rw [e3, e1, e2, IntKind.wrap_u64, IntKind.wrap_u64]
  generalize (x.toNat.testBit (a + j)).toNat * 2 ^ j = T at *
  omega

end Go.Proofs.YtcjkachlahjbiaaDoor
