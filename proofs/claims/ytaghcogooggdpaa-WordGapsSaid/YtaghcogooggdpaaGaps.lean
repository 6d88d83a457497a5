/- The walk of the law WordGaps: it returns true, whatever it is given. No condition but that each number fits its kind. -/
import Derived.Test.YtaghcogooggdpaaKept
import Derived.Test.YtaghcogooggdpaaRef
namespace Go.Proofs.Ytaghcogooggdpaa
open Go.RowKit
set_option linter.unusedVariables false

def frB (x a j : Nat) : Bool := decide (getN x a j = 0)
theorem frB_one (x : Int) (a j : Nat) (h : bitI x (a + j) = 1) : frB x.toNat a (j + 1) = false := by
  unfold frB
  have h1 : (x.toNat.testBit (a + j)).toNat = 1 := by
    unfold bitI at h
    rw [show ((a : Int) + (j : Int)).toNat = a + j by omega] at h
    exact_mod_cast h
  rw [getN_succ, h1]
  have := Nat.two_pow_pos j
  exact decide_eq_false (by omega)
theorem frB_zero (x : Int) (a j : Nat) (h : bitI x (a + j) = 0) : frB x.toNat a (j + 1) = frB x.toNat a j := by
  unfold frB
  have h1 : (x.toNat.testBit (a + j)).toNat = 0 := by
    unfold bitI at h
    rw [show ((a : Int) + (j : Int)).toNat = a + j by omega] at h
    exact_mod_cast h
  rw [getN_succ, h1]
  simp

set_option maxHeartbeats 1000000 in
theorem rgap_any (x n : Int) (w : World) (hx : U64 x) :
    Calls Try.prog 21 #[.int .u64 x, .int .i64 n] w fun e w' => e = .returned (.int .i64 (gapI x n)) ∧ Quiet w w' := by
  by_cases h1 : n < 1
  · have hg : gapI x n = 0 := by unfold gapI; rw [if_pos h1]
    rw [hg]; clear hg
    go_enter Try.func21, Try.ntmps21
    go_wp2
    go_ret
    exact ⟨rfl, Quiet.refl _⟩
  · by_cases h2 : 64 < n
    · have hg : gapI x n = -1 := by unfold gapI; rw [if_neg h1, show 65 - n.toNat = 0 by omega]; rfl
      rw [hg]; clear hg
      go_enter Try.func21, Try.ntmps21
      go_wp2
      go_ret
      exact ⟨rfl, Quiet.refl _⟩
    · have hg : gapI x n = gapFrom x.toNat n.toNat (65 - n.toNat) 0 := by unfold gapI; rw [if_neg h1]
      have HG := Lib.hid hg
      clear hg
      obtain ⟨N, rfl⟩ := Int.eq_ofNat_of_zero_le (show 0 ≤ n by omega)
      rw [Int.toNat_natCast] at HG
      go_enter Try.func21, Try.ntmps21
      go_wp2
      go_loopw [5] (fun i wr => ∃ k : Nat, k ≤ 65 - N ∧ i = .int .i64 k ∧ Hid (gapI x N = gapFrom x.toNat N (65 - N - k) k) ∧ Quiet w wr) (fun i _ => 65 - (intOf i).toNat)
      case atStart => exact ⟨0, Nat.zero_le _, rfl, HG, Quiet.refl _⟩
      case round =>
        obtain ⟨k, hk, rfl, hr, hq⟩ := hrel
        by_cases hlt : (k : Int) + (N : Int) ≤ 64
        · have hs : 65 - N - k = (65 - N - (k + 1)) + 1 := by omega
          have hr2 := hr.out
          rw [hs, gapFrom] at hr2
          have HR := Lib.hid hr2
          have H0 := Lib.hid (show frB x.toNat k 0 = true by unfold frB getN; simp [Nat.mod_one])
          clear hr2 hr hs
          go_wp2
          go_loopw [6, 7] (fun f i wx => ∃ j : Nat, j ≤ N ∧ i = .int .i64 j ∧ f = .bool (frB x.toNat k j) ∧ Quiet w wx) (fun _ i _ => N - (intOf i).toNat)
          case atStart => exact ⟨0, Nat.zero_le _, rfl, congrArg _ H0.out.symm, hq⟩
          case round =>
            obtain ⟨j, hj, rfl, rfl, hqx⟩ := hrel
            by_cases hl2 : j < N
            · have B := Lib.hid (fun W => bit_any x ((k : Int) + j) W hx (by omega))
              rcases bitI_01 x ((k : Int) + j) with hb | hb
              · have hf := frB_zero x k j hb
                rw [hb] at B
                have HF := Lib.hid hf
                clear hf hb
                go_wp2_with (go_at_call 31; refine (B.out _).mono ?_; rintro e w2 ⟨rfl, hq2⟩)
                go_roundw
                case rel => exact ⟨j + 1, by omega, by go_num, congrArg _ HF.out.symm, hqx.trans hq2⟩
                case measure => simp [intOf]; omega
              · have hf := frB_one x k j hb
                rw [hb] at B
                have HF := Lib.hid hf
                clear hf hb
                go_wp2_with (go_at_call 31; refine (B.out _).mono ?_; rintro e w2 ⟨rfl, hq2⟩)
                go_roundw
                case rel => exact ⟨j + 1, by omega, by go_num, congrArg _ HF.out.symm, hqx.trans hq2⟩
                case measure => simp [intOf]; omega
            · have hjN : j = N := by omega
              by_cases hz : getN x.toNat k N = 0
              · have hfr : frB x.toNat k j = true := by rw [hjN]; exact decide_eq_true hz
                clear hjN
                have hres := HR.out
                rw [if_pos hz] at hres
                have HRR := Lib.hid hres
                rw [hfr]
                clear hz hres hfr
                go_wp2
                go_ret
                exact ⟨ret_int HRR.out.symm, hqx⟩
              · have hfr : frB x.toNat k j = false := by rw [hjN]; exact decide_eq_false hz
                clear hjN
                have hres := HR.out
                rw [if_neg hz] at hres
                have HRR := Lib.hid hres
                rw [hfr]
                clear hz hres hfr
                go_wp2
                go_roundw
                case rel => exact ⟨k + 1, by omega, by go_num, HRR, hqx⟩
                case measure => simp [intOf]; omega
        · have h65 : 65 - N - k = 0 := by omega
          have hr2 : gapI x N = -1 := by rw [hr.out, h65, gapFrom]
          have HR := Lib.hid hr2
          clear h65 hr hr2
          go_wp2
          go_ret
          exact ⟨ret_int HR.out.symm, hq⟩

set_option maxHeartbeats 1000000 in
theorem gaps_law (x n : Int) (w : World) (w0 : (Lit.int .u64 x).wf = true) (w1 : (Lit.int .i64 n).wf = true) :
    Calls Try.prog 8 #[.int .u64 x, .int .i64 n] w fun e w' => e = .returned (.bool true) ∧ Below w.heap.size w w' := by
  have G1 := Lib.hid (fun W => gap_any x n W (wf_U64 w0) (i64_bd w1).2)
  have G2 := Lib.hid (fun W => rgap_any x n W (wf_U64 w0))
  clear w0 w1
  generalize gapI x n = g at *
  go_enter Try.func8, Try.ntmps8
  go_wp2_with (first | (go_at_call 11; refine (worded_any _).mono ?_; rintro e w1 ⟨rfl, hq1⟩) | (go_at_call 16; refine (G1.out _).mono ?_; rintro e w2 ⟨rfl, hq2⟩) | (go_at_call 21; refine (G2.out _).mono ?_; rintro e w3 ⟨rfl, hq3⟩))
  go_ret
  exact ⟨rfl, (hq1.trans (hq2.trans hq3)).below⟩
end Go.Proofs.Ytaghcogooggdpaa
