/- The walk of the law WordTurns: it returns true, whatever it is given. No condition but that each number fits its kind. -/
import Derived.Test.YtaghcogooggdpaaTurn
namespace Go.Proofs.Ytaghcogooggdpaa
open Go.RowKit
set_option linter.unusedVariables false

/-- the first i bits, each at its new place -/
def accN (x s i : Nat) : Nat := if i ≤ 64 - s then 2 ^ s * (x % 2 ^ i) else 2 ^ s * (x % 2 ^ (64 - s)) + x / 2 ^ (64 - s) % 2 ^ (i - (64 - s))
theorem mod_succ_bit (x i : Nat) : x % 2 ^ (i + 1) = x % 2 ^ i + (x.testBit i).toNat * 2 ^ i := by
  have := getN_succ x 0 i
  unfold getN at this
  simpa using this
theorem accN_succ (x s i : Nat) (hs : s < 64) (hi : i < 64) : accN x s (i + 1) = accN x s i + (x.testBit i).toNat * 2 ^ ((i + s) % 64) := by
  unfold accN
  by_cases h1 : i + 1 ≤ 64 - s
  · have e : (i + s) % 64 = i + s := Nat.mod_eq_of_lt (by omega)
    rw [if_pos h1, if_pos (by omega), mod_succ_bit, Nat.mul_add, e, show 2 ^ (i + s) = 2 ^ s * 2 ^ i by rw [← Nat.pow_add, Nat.add_comm], Nat.mul_left_comm]
  · rw [if_neg h1, show i + 1 - (64 - s) = (i - (64 - s)) + 1 by omega, mod_succ_bit, Nat.testBit_div_two_pow, show i - (64 - s) + (64 - s) = i by omega]
    have e : (i + s) % 64 = i - (64 - s) := by omega
    rw [e]
    by_cases h2 : i ≤ 64 - s
    · have hi2 : i = 64 - s := by omega
      rw [if_pos h2, hi2, Nat.sub_self, Nat.pow_zero, Nat.mod_one]
      omega
    · rw [if_neg h2]
      omega
theorem accN_le (x s i : Nat) (hx : x < 2 ^ 64) (hs : s < 64) (hi : i ≤ 64) : accN x s i < 2 ^ 64 := by
  have hl := rotN_lt x s hx (by omega)
  refine Nat.lt_of_le_of_lt ?_ hl
  unfold accN rotN
  split
  · rename_i h
    refine Nat.le_trans (Nat.mul_le_mul_left _ ?_) (Nat.le_add_right _ _)
    have hd : x % 2 ^ (64 - s) % 2 ^ i = x % 2 ^ i := Nat.mod_mod_of_dvd x (Nat.pow_dvd_pow 2 h)
    rw [← hd]
    exact Nat.mod_le _ _
  · exact Nat.add_le_add_left (Nat.mod_le _ _) _
theorem accN_end (x s : Nat) (hx : x < 2 ^ 64) (hs : s < 64) : accN x s 64 = rotN x s := by
  unfold accN rotN
  by_cases h : s = 0
  · subst h
    rw [if_pos (by omega), Nat.sub_zero, Nat.div_eq_of_lt hx]
    rfl
  · rw [if_neg (by omega), show 64 - (64 - s) = s by omega, Nat.mod_eq_of_lt (div_lt64 x s hx (by omega))]
theorem acc_step (x : Int) (s i : Nat) (hx : U64 x) (hs : s < 64) (hi : i < 64) :
    IntKind.u64.wrap (bitI x i * powI (((i : Int) + s) % 64)) = bitI x i * powI (((i : Int) + s) % 64) ∧ IntKind.u64.wrap (((accN x.toNat s i : Nat) : Int) + bitI x i * powI (((i : Int) + s) % 64)) = ((accN x.toNat s (i + 1) : Nat) : Int) := by
  have h1 := accN_succ x.toNat s i hs hi
  have h2 := accN_le x.toNat s (i + 1) (by have := hx.2; omega) hs (by omega)
  have e1 : bitI x i * powI (((i : Int) + s) % 64) = (((x.toNat.testBit i).toNat * 2 ^ ((i + s) % 64) : Nat) : Int) := by
    unfold bitI powI
    rw [show (((i : Int) + (s : Int)) % 64).toNat = (i + s) % 64 by omega, Int.toNat_natCast, Int.natCast_mul]
  rw [e1, IntKind.wrap_u64, IntKind.wrap_u64]
  generalize (x.toNat.testBit i).toNat * 2 ^ ((i + s) % 64) = T at *
  omega

set_option maxHeartbeats 1000000 in
theorem rturn_any (x k : Int) (w : World) (hx : U64 x) :
    Calls Try.prog 22 #[.int .u64 x, .int .i64 k] w fun e w' => e = .returned (.int .u64 (rotI x k)) ∧ Quiet w w' := by
  obtain ⟨s, hs⟩ := Int.eq_ofNat_of_zero_le (show 0 ≤ k % 64 by omega)
  have hs63 : s ≤ 63 := by omega
  have hr : rotI x k = ((accN x.toNat s 64 : Nat) : Int) := by
    unfold rotI
    rw [hs, Int.toNat_natCast, accN_end _ _ (by have := hx.2; omega) (by omega)]
  have h0 : ((accN x.toNat s 0 : Nat) : Int) = 0 := by
    unfold accN
    rw [if_pos (by omega), Nat.pow_zero, Nat.mod_one]
    rfl
  rw [hr]
  have H0 := Lib.hid h0
  clear hr h0
  by_cases hneg : k.tmod 64 < 0
  · have hm : k.tmod 64 = (s : Int) - 64 := by rw [Int.tmod_eq_emod] at hneg ⊢; split at hneg <;> split <;> omega
    clear hs hneg
    have hdec : decide ((s : Int) - 64 < 0) = true := decide_eq_true (by omega)
    go_enter Try.func22, Try.ntmps22
    go_wp2
    go_loopw [6, 7] (fun o i wr => ∃ j : Nat, j ≤ 64 ∧ i = .int .i64 j ∧ o = .int .u64 ((accN x.toNat s j : Nat) : Int) ∧ Quiet w wr) (fun _ i _ => 64 - (intOf i).toNat)
    case atStart => exact ⟨0, Nat.zero_le _, rfl, congrArg _ H0.out.symm, Quiet.refl _⟩
    case round =>
      obtain ⟨j, hj, rfl, rfl, hq⟩ := hrel
      by_cases hlt : (j : Int) < 64
      · obtain ⟨s1, s2⟩ := acc_step x s j hx (by omega) (by omega)
        have B := Lib.hid (fun W => bit_any x j W hx (by omega))
        have C := Lib.hid (fun W => power_any (((j : Int) + s) % 64) W (by omega))
        go_wp2_with (first | (go_at_call 31; refine (B.out _).mono ?_; rintro e w2 ⟨rfl, hq2⟩) | (go_at_call 32; refine (C.out _).mono ?_; rintro e w3 ⟨rfl, hq3⟩))
        go_roundw
        case rel => exact ⟨j + 1, by omega, by go_num, rfl, hq.trans (hq2.trans hq3)⟩
        case measure => simp [intOf]; omega
      · obtain rfl : j = 64 := by omega
        go_wp2
        go_ret
        exact ⟨rfl, hq⟩
  · have hm : k.tmod 64 = (s : Int) := by rw [Int.tmod_eq_emod] at hneg ⊢; split at hneg <;> split <;> omega
    clear hs hneg
    go_enter Try.func22, Try.ntmps22
    go_wp2
    go_loopw [6, 7] (fun o i wr => ∃ j : Nat, j ≤ 64 ∧ i = .int .i64 j ∧ o = .int .u64 ((accN x.toNat s j : Nat) : Int) ∧ Quiet w wr) (fun _ i _ => 64 - (intOf i).toNat)
    case atStart => exact ⟨0, Nat.zero_le _, rfl, congrArg _ H0.out.symm, Quiet.refl _⟩
    case round =>
      obtain ⟨j, hj, rfl, rfl, hq⟩ := hrel
      by_cases hlt : (j : Int) < 64
      · obtain ⟨s1, s2⟩ := acc_step x s j hx (by omega) (by omega)
        have B := Lib.hid (fun W => bit_any x j W hx (by omega))
        have C := Lib.hid (fun W => power_any (((j : Int) + s) % 64) W (by omega))
        go_wp2_with (first | (go_at_call 31; refine (B.out _).mono ?_; rintro e w2 ⟨rfl, hq2⟩) | (go_at_call 32; refine (C.out _).mono ?_; rintro e w3 ⟨rfl, hq3⟩))
        go_roundw
        case rel => exact ⟨j + 1, by omega, by go_num, rfl, hq.trans (hq2.trans hq3)⟩
        case measure => simp [intOf]; omega
      · obtain rfl : j = 64 := by omega
        go_wp2
        go_ret
        exact ⟨rfl, hq⟩

set_option maxHeartbeats 1000000 in
theorem turns_law (x k : Int) (w : World) (w0 : (Lit.int .u64 x).wf = true) (w1 : (Lit.int .i64 k).wf = true) :
    Calls Try.prog 9 #[.int .u64 x, .int .i64 k] w fun e w' => e = .returned (.bool true) ∧ Below w.heap.size w w' := by
  have G1 := Lib.hid (fun W => turn_any x k W (wf_U64 w0))
  have G2 := Lib.hid (fun W => rturn_any x k W (wf_U64 w0))
  clear w0 w1
  generalize rotI x k = g at *
  go_enter Try.func9, Try.ntmps9
  go_wp2_with (first | (go_at_call 11; refine (worded_any _).mono ?_; rintro e w1 ⟨rfl, hq1⟩) | (go_at_call 14; refine (G1.out _).mono ?_; rintro e w2 ⟨rfl, hq2⟩) | (go_at_call 22; refine (G2.out _).mono ?_; rintro e w3 ⟨rfl, hq3⟩))
  go_ret
  exact ⟨rfl, (hq1.trans (hq2.trans hq3)).below⟩
end Go.Proofs.Ytaghcogooggdpaa
