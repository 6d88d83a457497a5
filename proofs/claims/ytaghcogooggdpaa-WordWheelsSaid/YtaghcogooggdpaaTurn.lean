/- What word.Turn and the document's Turn return. No condition but that each number fits its kind. -/
import Derived.Test.YtaghcogooggdpaaRef
import Derived.Test.YtaghcogooggdpaaKept
namespace Go.Proofs.Ytaghcogooggdpaa
open Go.RowKit
set_option linter.unusedVariables false

/-- turned to the left by s places, s below 64 -/
def rotN (x s : Nat) : Nat := 2 ^ s * (x % 2 ^ (64 - s)) + x / 2 ^ (64 - s)
def rotI (x k : Int) : Int := ((rotN x.toNat (k % 64).toNat : Nat) : Int)
theorem div_lt64 (x s : Nat) (hx : x < 2 ^ 64) (hs : s ≤ 64) : x / 2 ^ (64 - s) < 2 ^ s := by
  rw [Nat.div_lt_iff_lt_mul (Nat.two_pow_pos _), ← Nat.pow_add, show s + (64 - s) = 64 by omega]
  exact hx
theorem rotN_lt (x s : Nat) (hx : x < 2 ^ 64) (hs : s ≤ 64) : rotN x s < 2 ^ 64 := by
  unfold rotN
  have h1 := div_lt64 x s hx hs
  have h2 : x % 2 ^ (64 - s) < 2 ^ (64 - s) := Nat.mod_lt _ (Nat.two_pow_pos _)
  have h3 : 2 ^ s * (x % 2 ^ (64 - s)) + 2 ^ s ≤ 2 ^ s * 2 ^ (64 - s) := by
    rw [← Nat.mul_succ]
    exact Nat.mul_le_mul_left _ h2
  rw [← Nat.pow_add, show s + (64 - s) = 64 by omega] at h3
  omega
theorem rotI_U64 (x k : Int) (hx : U64 x) : U64 (rotI x k) := U64.nat _ (rotN_lt _ _ (by have := hx.2; omega) (by omega))

theorem and63 (k : Int) : bits .and .u64 (IntKind.u64.wrap k) 63 = k % 64 := by
  obtain ⟨K, hK⟩ := Int.eq_ofNat_of_zero_le (show 0 ≤ k % 18446744073709551616 by omega)
  rw [IntKind.wrap_u64, hK]
  rw [show (63 : Int) = ((63 : Nat) : Int) from rfl, bits_and_u64_nat _ _ (by omega) (by decide), show (63 : Nat) = 2 ^ 6 - 1 from rfl, Nat.and_two_pow_sub_one_eq_mod]
  omega
theorem rot_bits (x : Int) (s : Nat) (hx : U64 x) (hs : s < 64) : bits .or .u64 (IntKind.u64.wrap (x * 2 ^ s)) (x / 2 ^ (64 - s)) = ((rotN x.toNat s : Nat) : Int) := by
  obtain ⟨X, rfl⟩ := Int.eq_ofNat_of_zero_le hx.1
  have hX : X < 2 ^ 64 := by have := hx.2; omega
  have e1 : ((X : Int) * 2 ^ s) = ((X * 2 ^ s : Nat) : Int) := by rw [Int.natCast_mul]; simp
  have e2 : ((X : Int) / 2 ^ (64 - s)) = ((X / 2 ^ (64 - s) : Nat) : Int) := by simp
  have e3 : X * 2 ^ s % 2 ^ 64 = 2 ^ s * (X % 2 ^ (64 - s)) := by
    rw [Nat.mul_comm, show (64 : Nat) = s + (64 - s) by omega, Nat.pow_add, Nat.mul_mod_mul_left, show s + (64 - s) - s = 64 - s by omega]
  have h1 := div_lt64 X s hX (by omega)
  have h4 : IntKind.u64.wrap ((X : Int) * 2 ^ s) = ((2 ^ s * (X % 2 ^ (64 - s)) : Nat) : Int) := by
    rw [e1, IntKind.wrap_u64, ← e3]
    omega
  have h5 : 2 ^ s * (X % 2 ^ (64 - s)) < 2 ^ 64 := by rw [← e3]; exact Nat.mod_lt _ (by decide)
  rw [h4, e2, bits_or_u64_nat _ _ (by omega) (Nat.lt_of_le_of_lt (Nat.div_le_self _ _) (by omega)), Int.toNat_natCast]
  unfold rotN
  congr 1
  rw [Nat.mul_comm, ← Nat.shiftLeft_eq, ← Nat.shiftLeft_add_eq_or_of_lt h1, Nat.shiftLeft_eq]

set_option maxHeartbeats 400000 in
theorem rotate_any (x k : Int) (w : World) (hx : U64 x) :
    Calls Try.prog 28 #[.int .u64 x, .int .i64 k] w fun e w' => e = .returned (.int .u64 (rotI x k)) ∧ Quiet w w' := by
  have h := rot_bits x (k % 64).toNat hx (by omega)
  have ha := and63 k
  unfold rotI
  rw [← h]
  obtain ⟨s, hs⟩ := Int.eq_ofNat_of_zero_le (show 0 ≤ k % 64 by omega)
  have hs63 : s ≤ 63 := by omega
  rw [hs] at ha ⊢
  rw [Int.toNat_natCast]
  clear h hs
  go_enter Try.func28, Try.ntmps28
  go_wp2
  go_ret
  exact ⟨rfl, Quiet.refl _⟩
set_option maxHeartbeats 400000 in
theorem turn_any (x k : Int) (w : World) (hx : U64 x) :
    Calls Try.prog 14 #[.int .u64 x, .int .i64 k] w fun e w' => e = .returned (.int .u64 (rotI x k)) ∧ Quiet w w' := by
  have R := Lib.hid (fun W => rotate_any x k W hx)
  generalize rotI x k = y at *
  go_enter Try.func14, Try.ntmps14
  go_wp2_with (go_at_call 28; refine (R.out _).mono ?_; rintro e w1 ⟨rfl, hq1⟩)
  go_ret
  exact ⟨rfl, hq1⟩
end Go.Proofs.Ytaghcogooggdpaa
