/- What word.Gap returns, for all integers of their kinds. No condition. -/
import Derived.Test.YtjkfddjmldckeaaDoorWord
namespace Go.Proofs.YtjkfddjmldckeaaDoor
open Go.RowKit

def gapFrom (x n : Nat) : Nat → Nat → Int
  | 0, _ => -1
  | f + 1, k => if getN x k n = 0 then (k : Int) else gapFrom x n f (k + 1)
def gapI (x n : Int) : Int := if n < 1 then 0 else gapFrom x.toNat n.toNat (65 - n.toNat) 0

theorem getI_zero (x a d : Int) : (getI x a d == 0) = decide (getN x.toNat a.toNat d.toNat = 0) := by
  unfold getI
  rw [Bool.eq_iff_iff]
  simp
theorem and_zero (x n : Int) (k : Nat) (hx : U64 x) (hf : fldB k n = true) : (bits .and .u64 (x / 2 ^ k) (maskI n) == 0) = decide (getN x.toNat k n.toNat = 0) := by
  have h := get_bits x k n hx hf
  rw [Int.toNat_natCast] at h
  rw [h, getI_zero, Int.toNat_natCast]

set_option maxHeartbeats 400000 in
theorem gap_any (x n : Int) (w : World) (hx : U64 x) (hn : n ≤ 9223372036854775807) :
    Calls Tryd.prog 22 #[.int .u64 x, .int .i64 n] w fun e w' => e = .returned (.int .i64 (gapI x n)) ∧ Quiet w w' := by
  by_cases h1 : n < 1
  · have hg : gapI x n = 0 := by unfold gapI; rw [if_pos h1]
    rw [hg]; clear hg
    go_enter Tryd.func22, Tryd.ntmps22
    go_wp2
    go_ret
    exact ⟨rfl, Quiet.refl _⟩
  · have hg : gapI x n = gapFrom x.toNat n.toNat (65 - n.toNat) 0 := by unfold gapI; rw [if_neg h1]
    have HG := Lib.hid hg
    clear hg
    go_enter Tryd.func22, Tryd.ntmps22
    go_wp2
    go_loopw [5] (fun i wr => ∃ k : Nat, k ≤ 65 - n.toNat ∧ i = .int .i64 k ∧ Hid (gapI x n = gapFrom x.toNat n.toNat (65 - n.toNat - k) k) ∧ Quiet w wr)
      (fun i _ => 65 - (intOf i).toNat)
    case atStart => exact ⟨0, Nat.zero_le _, rfl, HG, Quiet.refl _⟩
    case round =>
      obtain ⟨k, hk, rfl, hr, hq⟩ := hrel
      by_cases hlt : (k : Int) ≤ 64 - n
      · have hf : fldB k n = true := fldB_mk ⟨by omega, by omega, by omega, by omega⟩
        have hs : 65 - n.toNat - k = (65 - n.toNat - (k + 1)) + 1 := by omega
        by_cases hz : getN x.toNat k n.toNat = 0
        · have hb := and_zero x n k hx hf
          rw [decide_eq_true hz] at hb
          have hr2 : gapI x n = (k : Int) := by rw [hr.out, hs, gapFrom, if_pos hz]
          have HR := Lib.hid hr2
          clear hf hs hr hr2 hz
          go_wp2
          go_quiet ((go_at_call 16; exact qcall (mask_any _ _)))
          go_wp2
          go_ret
          exact ⟨ret_int HR.out.symm, hq.trans Quiet.drew⟩
        · have hb := and_zero x n k hx hf
          rw [decide_eq_false hz] at hb
          have hr2 : gapI x n = gapFrom x.toNat n.toNat (65 - n.toNat - (k + 1)) (k + 1) := by rw [hr.out, hs, gapFrom, if_neg hz]
          have HR := Lib.hid hr2
          clear hf hs hr hr2 hz
          go_wp2
          go_quiet ((go_at_call 16; exact qcall (mask_any _ _)))
          go_wp2
          go_roundw
          case rel => exact ⟨k + 1, by omega, by go_num, HR, hq.trans Quiet.drew⟩
          case measure => simp [intOf]; omega
      · have h65 : 65 - n.toNat - k = 0 := by omega
        have hr2 : gapI x n = -1 := by rw [hr.out, h65, gapFrom]
        have HR := Lib.hid hr2
        clear h65 hr hr2
        go_wp2
        go_ret
        exact ⟨ret_int HR.out.symm, hq⟩
end Go.Proofs.YtjkfddjmldckeaaDoor
