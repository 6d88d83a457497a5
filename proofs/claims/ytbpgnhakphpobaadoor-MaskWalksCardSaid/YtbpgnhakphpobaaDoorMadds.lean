/- MaskAdds: the walk of the whole. Conditions: the argument is a list of words, the table of math/bits lies as the start lays it. -/
import Derived.Test.YtbpgnhakphpobaaDoorMbit
import Derived.Test.YtbpgnhakphpobaaDoorMcoun
namespace Go.Proofs.YtbpgnhakphpobaaDoor
open Go.RowKit
set_option linter.unusedVariables false

theorem mod_small (x : Int) (m : Nat) (h0 : 0 < m) (h1 : m < 100000) : ∃ p : Nat, p < m ∧ wrap64 ((IntKind.u64.wrap x).tmod (m : Int)) = (p : Int) := by
  have h : 0 ≤ IntKind.u64.wrap x := by rw [IntKind.wrap_u64]; omega
  generalize IntKind.u64.wrap x = y at *
  obtain ⟨Y, rfl⟩ := Int.eq_ofNat_of_zero_le h
  refine ⟨Y % m, Nat.mod_lt _ h0, ?_⟩
  have e : ((Y : Int)).tmod (m : Int) = ((Y % m : Nat) : Int) := by rw [Int.tmod_eq_emod_of_nonneg (by omega)]; rfl
  rw [e]
  have := Nat.mod_lt Y h0
  unfold wrap64; omega
end Go.Proofs.YtbpgnhakphpobaaDoor
