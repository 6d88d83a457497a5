/- The laws SizesLeast and SizesRounds: the walks. No condition but that the tables lie as the start lays them. -/
import Derived.Test.YtcjkachlahjbiaaDoorSizl
namespace Go.Proofs.YtcjkachlahjbiaaDoor
open Go.RowKit
set_option linter.unusedVariables false

theorem mod_lit (x k : Int) (h0 : 0 < k) (h1 : k ≤ 1000000) : 0 ≤ wrap64 ((IntKind.u64.wrap x).tmod k) ∧ wrap64 ((IntKind.u64.wrap x).tmod k) < k := by
  have hw : 0 ≤ IntKind.u64.wrap x := by rw [IntKind.wrap_u64]; omega
  generalize IntKind.u64.wrap x = y at *
  have e : y.tmod k = y % k := by rw [Int.tmod_eq_emod_of_nonneg hw]
  have h2 : 0 ≤ y % k := Int.emod_nonneg _ (by omega)
  have h3 : y % k < k := Int.emod_lt_of_pos _ (by omega)
  rw [e]
  generalize y % k = z at *
  rw [IntWalk.wrap64_in z ⟨by omega, by omega⟩]
  exact ⟨h2, h3⟩

theorem least_facts : ∀ k : Fin 32, clE (1 + ((k.val : Nat) : Int)) = 0 ∧ 0 ≤ clV (1 + ((k.val : Nat) : Int)) ∧ clV (1 + ((k.val : Nat) : Int)) ≤ 7 ∧ errI (clV (1 + ((k.val : Nat) : Int))) = 0 ∧ 1 + ((k.val : Nat) : Int) ≤ widI (clV (1 + ((k.val : Nat) : Int))) ∧
    (0 < clV (1 + ((k.val : Nat) : Int)) → errI (clV (1 + ((k.val : Nat) : Int)) - 1) = 0 ∧ widI (clV (1 + ((k.val : Nat) : Int)) - 1) < 1 + ((k.val : Nat) : Int)) := by decide +kernel
theorem least_mono : ∀ a b : Fin 32, a.val ≤ b.val → clV (1 + ((a.val : Nat) : Int)) ≤ clV (1 + ((b.val : Nat) : Int)) := by decide +kernel

theorem rounds_facts : ∀ k : Fin 32, clE (1 + ((k.val : Nat) : Int)) = 0 ∧ errI (clV (1 + ((k.val : Nat) : Int))) = 0 ∧ 1 + ((k.val : Nat) : Int) ≤ widI (clV (1 + ((k.val : Nat) : Int))) ∧ ((numN (clV (1 + ((k.val : Nat) : Int))) : Nat) : Int) * widI (clV (1 + ((k.val : Nat) : Int))) ≤ 64 ∧
    0 ≤ ((numN (clV (1 + ((k.val : Nat) : Int))) : Nat) : Int) * widI (clV (1 + ((k.val : Nat) : Int))) := by decide +kernel

end Go.Proofs.YtcjkachlahjbiaaDoor
