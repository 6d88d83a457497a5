/- What Right of the document's layer 6 returns. No condition. -/
import Derived.Test.YtgcahbgapojimaaSpot
import Derived.Maps.AppendAt
namespace Go.Proofs.Ytgcahbgapojimaa
open Go.RowKit
set_option linter.unusedVariables false
set_option linter.unusedSimpArgs false
set_option maxHeartbeats 1000000 in
theorem rright_any (P T R : Int) (w : World) :
    Calls Try.prog 38 #[.agg #[.int .i64 P, .int .i64 T, .int .i64 R]] w fun e w' => e = .returned (.bool (rightB P T R)) ∧ Below w.heap.size w w' := by
  by_cases h0 : 1 ≤ P
  rotate_left 1
  · rw [show rightB P T R = false by simp [rightB, inB]; omega]
    have g0 : decide (1 ≤ P) = false := decide_eq_false h0
    go_enter Try.func38, Try.ntmps38
    go_wp2
    go_ret
    exact ⟨rfl, (Below.refl _ _).alloc (Nat.le_refl _) _⟩
  by_cases h1 : P ≤ 32
  rotate_left 1
  · rw [show rightB P T R = false by simp [rightB, inB]; omega]
    have g1 : decide (P ≤ 32) = false := decide_eq_false h1
    go_enter Try.func38, Try.ntmps38
    go_wp2
    go_ret
    exact ⟨rfl, (Below.refl _ _).alloc (Nat.le_refl _) _⟩
  by_cases h2 : 1 ≤ T
  rotate_left 1
  · rw [show rightB P T R = false by simp [rightB, inB]; omega]
    have g2 : decide (1 ≤ T) = false := decide_eq_false h2
    go_enter Try.func38, Try.ntmps38
    go_wp2
    go_ret
    exact ⟨rfl, (Below.refl _ _).alloc (Nat.le_refl _) _⟩
  by_cases h3 : T ≤ 6
  rotate_left 1
  · rw [show rightB P T R = false by simp [rightB, inB]; omega]
    have g3 : decide (T ≤ 6) = false := decide_eq_false h3
    go_enter Try.func38, Try.ntmps38
    go_wp2
    go_ret
    exact ⟨rfl, (Below.refl _ _).alloc (Nat.le_refl _) _⟩
  by_cases h4 : 1 ≤ R
  rotate_left 1
  · rw [show rightB P T R = false by simp [rightB, inB]; omega]
    have g4 : decide (1 ≤ R) = false := decide_eq_false h4
    go_enter Try.func38, Try.ntmps38
    go_wp2
    go_ret
    exact ⟨rfl, (Below.refl _ _).alloc (Nat.le_refl _) _⟩
  by_cases h5 : R ≤ 16
  rotate_left 1
  · rw [show rightB P T R = false by simp [rightB, inB]; omega]
    have g5 : decide (R ≤ 16) = false := decide_eq_false h5
    go_enter Try.func38, Try.ntmps38
    go_wp2
    go_ret
    exact ⟨rfl, (Below.refl _ _).alloc (Nat.le_refl _) _⟩
  rw [show rightB P T R = true by simp [rightB, inB]; omega]
  go_enter Try.func38, Try.ntmps38
  go_wp2
  go_ret
  exact ⟨rfl, (Below.refl _ _).alloc (Nat.le_refl _) _⟩
end Go.Proofs.Ytgcahbgapojimaa
