/- The walk of the law WordWheels: it returns true, whatever it is given. No condition but that each number fits its kind. -/
import Derived.Test.YtaghcogooggdpaaTurn
import Derived.Test.YtaghcogooggdpaaOnesb
namespace Go.Proofs.Ytaghcogooggdpaa
open Go.RowKit
set_option linter.unusedVariables false

theorem rotN_bit (x s i : Nat) (hx : x < 2 ^ 64) (hs : s < 64) (hi : i < 64) : (rotN x s).testBit i = x.testBit ((i + (64 - s)) % 64) := by
  unfold rotN
  rw [Nat.testBit_two_pow_mul_add _ (div_lt64 x s hx (by omega))]
  by_cases h : i < s
  · rw [if_pos h, Nat.testBit_div_two_pow, Nat.mod_eq_of_lt (by omega)]
  · rw [if_neg h, Nat.testBit_mod_two_pow, show (i + (64 - s)) % 64 = i - s by omega]
    simp [show i - s < 64 - s by omega]
theorem rotN_rotN (x s t : Nat) (hx : x < 2 ^ 64) (hs : s < 64) (ht : t < 64) : rotN (rotN x s) t = rotN x ((s + t) % 64) := by
  have h1 := rotN_lt x s hx (by omega)
  apply Nat.eq_of_testBit_eq
  intro i
  by_cases hi : i < 64
  · rw [rotN_bit _ _ _ h1 ht hi, rotN_bit _ _ _ hx hs (by omega), rotN_bit _ _ _ hx (by omega) hi]
    congr 1
    omega
  · rw [Nat.testBit_lt_two_pow (Nat.lt_of_lt_of_le (rotN_lt _ _ h1 (by omega)) (Nat.pow_le_pow_right (by decide) (by omega))), Nat.testBit_lt_two_pow (Nat.lt_of_lt_of_le (rotN_lt _ _ hx (by omega)) (Nat.pow_le_pow_right (by decide) (by omega)))]
theorem rotN_zero (x : Nat) (hx : x < 2 ^ 64) : rotN x 0 = x := by
  unfold rotN
  rw [Nat.sub_zero, Nat.mod_eq_of_lt hx, Nat.div_eq_of_lt hx]
  omega
theorem cnt_rotN (x s : Nat) (hx : x < 2 ^ 64) (hs : s < 64) : cnt (rotN x s) 64 = cnt x 64 := by
  have h1 := cnt_add (x / 2 ^ (64 - s)) (x % 2 ^ (64 - s)) s (div_lt64 x s hx (by omega)) (64 - s)
  have h2 := cnt_add (x % 2 ^ (64 - s)) (x / 2 ^ (64 - s)) (64 - s) (Nat.mod_lt _ (Nat.two_pow_pos _)) s
  rw [show s + (64 - s) = 64 by omega] at h1
  rw [Nat.div_add_mod, show 64 - s + s = 64 by omega] at h2
  unfold rotN
  rw [h1, h2]
  omega
theorem rotI_rotI (x a b : Int) (hx : U64 x) : rotI (rotI x a) b = rotI x (a + b) := by
  unfold rotI
  rw [Int.toNat_natCast, rotN_rotN _ _ _ (by have := hx.2; omega) (by omega) (by omega)]
  congr 2
  omega
theorem rotI_back (x a : Int) (hx : U64 x) : rotI (rotI x a) (-a) = x := by
  rw [rotI_rotI _ _ _ hx]
  unfold rotI
  rw [show ((a + -a) % 64).toNat = 0 by omega, rotN_zero _ (by have := hx.2; omega)]
  have := hx.1
  omega
theorem onesI_rotI (x a : Int) (hx : U64 x) : onesI (rotI x a) = onesI x := by
  unfold onesI rotI
  rw [Int.toNat_natCast, cnt_rotN _ _ (by have := hx.2; omega) (by omega)]

set_option maxHeartbeats 400000 in
theorem ones_any (x : Int) (w : World) (hx : U64 x) :
    Calls Try.prog 15 #[.int .u64 x] w fun e w' => e = .returned (.int .i64 (onesI x)) ∧ Quiet w w' := by
  have R := Lib.hid (fun W => onesCount_any x W hx)
  generalize onesI x = y at *
  go_enter Try.func15, Try.ntmps15
  go_wp2_with (go_at_call 29; refine (R.out _).mono ?_; rintro e w1 ⟨rfl, hq1⟩)
  go_ret
  exact ⟨rfl, hq1⟩

theorem tmod_small (a : Int) : ∃ m, a.tmod 64 = m ∧ -63 ≤ m ∧ m ≤ 63 := by
  refine ⟨_, rfl, ?_⟩
  rw [Int.tmod_eq_emod]
  split <;> omega

set_option maxHeartbeats 1000000 in
theorem wheels_walk (x a b : Int) (w : World) (hx : U64 x) :
    Calls Try.prog 4 #[.int .u64 x, .int .i64 a, .int .i64 b] w fun e w' => e = .returned (.bool true) ∧ Below w.heap.size w w' := by
  obtain ⟨m, hm, hm0, hm1⟩ := tmod_small a
  obtain ⟨n, hn, hn0, hn1⟩ := tmod_small b
  have hy := rotI_U64 x m hx
  have T1 := Lib.hid (fun W => turn_any x m W hx)
  have T2 := Lib.hid (fun W => turn_any (rotI x m) (-m) W hy)
  have T3 := Lib.hid (fun W => turn_any (rotI x m) n W hy)
  have T4 := Lib.hid (fun W => turn_any x (m + n) W hx)
  have O1 := Lib.hid (fun W => ones_any (rotI x m) W hy)
  have O2 := Lib.hid (fun W => ones_any x W hx)
  rw [rotI_back x m hx] at T2
  rw [rotI_rotI x m n hx] at T3
  rw [onesI_rotI x m hx] at O1
  generalize rotI x m = Y at *
  generalize rotI x (m + n) = V at *
  generalize onesI x = C at *
  go_enter Try.func4, Try.ntmps4
  go_wp2_with fail
  refine (T1.out _).mono ?_
  rintro e w1 ⟨rfl, hq1⟩
  go_wp2_with (go_at_call 11; refine (worded_any _).mono ?_; rintro e w2 ⟨rfl, hq2⟩)
  refine (T2.out _).mono ?_
  rintro e w3 ⟨rfl, hq3⟩
  go_wp2_with fail
  refine (T3.out _).mono ?_
  rintro e w4 ⟨rfl, hq4⟩
  go_wp2_with fail
  refine (T4.out _).mono ?_
  rintro e w5 ⟨rfl, hq5⟩
  go_wp2_with fail
  refine (O1.out _).mono ?_
  rintro e w6 ⟨rfl, hq6⟩
  go_wp2_with fail
  refine (O2.out _).mono ?_
  rintro e w7 ⟨rfl, hq7⟩
  go_wp2_with fail
  go_ret
  exact ⟨rfl, (hq1.trans (hq2.trans (hq3.trans (hq4.trans (hq5.trans (hq6.trans hq7)))))).below⟩
theorem wheels_law (x a b : Int) (w : World) (w0 : (Lit.int .u64 x).wf = true) (w1 : (Lit.int .i64 a).wf = true) (w2 : (Lit.int .i64 b).wf = true) :
    Calls Try.prog 4 #[.int .u64 x, .int .i64 a, .int .i64 b] w fun e w' => e = .returned (.bool true) ∧ Below w.heap.size w w' :=
  wheels_walk x a b w (wf_U64 w0)
end Go.Proofs.Ytaghcogooggdpaa
