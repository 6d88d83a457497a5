/- What a walk is told of a slice of integers: nil, or a row of cells. No condition. -/
import Derived.Test.YtaghcogooggdpaaQuiet
namespace Go.Proofs.Ytaghcogooggdpaa
/-- nil; or a row of 'cap' cells, the numbers 'zs', of which the first 'len' are the elements. -/
def IsRow (k : IntKind) (w : World) (a : Option Addr) (len cap : Nat) (zs : List Int) : Prop :=
  (a = none ∧ len = 0 ∧ cap = 0 ∧ zs = []) ∨
  ∃ x, a = some x ∧ len ≤ cap ∧ cap ≤ maxLen ∧ zs.length = cap ∧ (∀ i, i < zs.length → w.cell? (x.add i) = some (.int k (zs.getD i 0))) ∧ ∀ n ∈ zs, (Lit.int k n).wf = true
end Go.Proofs.Ytaghcogooggdpaa
