/- The walk of the law WordHoles: it returns true, whatever it is given. No condition but that each number fits its kind. -/
import Derived.Test.YtaghcogooggdpaaKept
namespace Go.Proofs.Ytaghcogooggdpaa
open Go.RowKit
set_option linter.unusedVariables false

/-- what a gap is -/
theorem gapFrom_spec (x n : Nat) : ∀ (f k : Nat), (∃ j : Nat, gapFrom x n f k = (j : Int) ∧ k ≤ j ∧ j < k + f ∧ getN x j n = 0) ∨ (gapFrom x n f k = -1 ∧ ∀ j, k ≤ j → j < k + f → getN x j n ≠ 0) := by
  intro f
  induction f with
  | zero => intro k; exact .inr ⟨rfl, fun j h1 h2 => by omega⟩
  | succ f ih =>
    intro k
    rw [gapFrom]
    by_cases hz : getN x k n = 0
    · rw [if_pos hz]
      exact .inl ⟨k, rfl, Nat.le_refl _, by omega, hz⟩
    · rw [if_neg hz]
      rcases ih (k + 1) with ⟨j, h1, h2, h3, h4⟩ | ⟨h1, h2⟩
      · exact .inl ⟨j, h1, by omega, by omega, h4⟩
      · refine .inr ⟨h1, fun j h3 h4 => ?_⟩
        by_cases hj : j = k
        · rw [hj]; exact hz
        · exact h2 j (by omega) (by omega)
theorem gapI_spec (x : Int) (N : Nat) (h1 : 1 ≤ N) (h2 : N ≤ 64) : (∃ j : Nat, gapI x N = (j : Int) ∧ j + N ≤ 64 ∧ getI x j N = 0) ∨ (gapI x N = -1 ∧ ∀ j : Nat, j + N ≤ 64 → (getI x j N == 0) = false) := by
  have e : gapI x N = gapFrom x.toNat N (65 - N) 0 := by unfold gapI; rw [if_neg (by omega), Int.toNat_natCast]
  rw [e]
  rcases gapFrom_spec x.toNat N (65 - N) 0 with ⟨j, h3, h4, h5, h6⟩ | ⟨h3, h4⟩
  · refine .inl ⟨j, h3, by omega, ?_⟩
    unfold getI
    rw [Int.toNat_natCast, Int.toNat_natCast, h6]
    rfl
  · refine .inr ⟨h3, fun j hj => ?_⟩
    rw [getI_zero, Int.toNat_natCast, Int.toNat_natCast]
    exact decide_eq_false (h4 j (by omega) (by omega))

set_option maxHeartbeats 1000000 in
theorem holes_walk (x n : Int) (w : World) (hx : U64 x) :
    Calls Try.prog 5 #[.int .u64 x, .int .i64 n] w fun e w' => e = .returned (.bool true) ∧ Below w.heap.size w w' := by
  obtain ⟨N, hN, hN1, hN2⟩ : ∃ N : Nat, (IntKind.u64.wrap n).tmod 64 = (N : Int) - 1 ∧ 1 ≤ N ∧ N ≤ 64 := by
    refine ⟨((IntKind.u64.wrap n).tmod 64 + 1).toNat, ?_, ?_, ?_⟩
    all_goals
      rw [IntKind.wrap_u64, Int.tmod_eq_emod_of_nonneg (by omega)]
      omega
  have hW := IntWalk.wrap64_in ((N : Int) - 1) (by omega)
  have hS : 1 + ((N : Int) - 1) = (N : Int) := by omega
  rcases gapI_spec x N hN1 hN2 with ⟨j, h1, h2, h3⟩ | ⟨h1, h2⟩
  · have G := Lib.hid (fun W => gap_any x N W hx (by omega))
    rw [h1] at G
    have T := Lib.hid (fun W => get_yes x j N W hx (fldB_mk (by omega)))
    rw [h3] at T
    clear h1 h3
    have hj0 : (0 : Int) ≤ (j : Int) := by omega
    go_enter Try.func5, Try.ntmps5
    go_wp2_with (first | (go_at_call 11; refine (worded_any _).mono ?_; rintro e w1 ⟨rfl, hq1⟩) | (go_at_call 16; refine (G.out _).mono ?_; rintro e w2 ⟨rfl, hq2⟩) | (go_at_call 13; refine (T.out _).mono ?_; rintro e w3 ⟨rfl, hq3⟩))
    go_ret
    exact ⟨rfl, (hq1.trans (hq2.trans hq3)).below⟩
  · have G := Lib.hid (fun W => gap_any x N W hx (by omega))
    rw [h1] at G
    have H2 := Lib.hid h2
    clear h1 h2
    go_enter Try.func5, Try.ntmps5
    go_wp2_with (first | (go_at_call 11; refine (worded_any _).mono ?_; rintro e w1 ⟨rfl, hq1⟩) | (go_at_call 16; refine (G.out _).mono ?_; rintro e w2 ⟨rfl, hq2⟩))
    have hQ := hq1.trans hq2
    clear hq1 hq2
    go_loopw [8] (fun i wr => ∃ k : Nat, k ≤ 65 - N ∧ i = .int .i64 k ∧ Quiet w wr) (fun i _ => 65 - (intOf i).toNat)
    case atStart => exact ⟨0, Nat.zero_le _, rfl, hQ⟩
    case round =>
      obtain ⟨k, hk, rfl, hq⟩ := hrel
      by_cases hlt : (k : Int) + (N : Int) ≤ 64
      · have hz := H2.out k (by omega)
        have T := Lib.hid (fun W => get_yes x k N W hx (fldB_mk (by omega)))
        go_wp2_with (go_at_call 13; refine (T.out _).mono ?_; rintro e w3 ⟨rfl, hq3⟩)
        go_roundw
        case rel => exact ⟨k + 1, by omega, by go_num, hq.trans hq3⟩
        case measure => simp [intOf]; omega
      · go_wp2
        go_ret
        exact ⟨rfl, hq.below⟩
theorem holes_law (x n : Int) (w : World) (w0 : (Lit.int .u64 x).wf = true) (w1 : (Lit.int .i64 n).wf = true) :
    Calls Try.prog 5 #[.int .u64 x, .int .i64 n] w fun e w' => e = .returned (.bool true) ∧ Below w.heap.size w w' :=
  holes_walk x n w (wf_U64 w0)
end Go.Proofs.Ytaghcogooggdpaa
