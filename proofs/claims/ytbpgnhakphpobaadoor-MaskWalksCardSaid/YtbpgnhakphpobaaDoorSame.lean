/- What mask.Within and Same return at two lists of the same words: true. No condition but that the lists are short and each number has 64 bits. -/
import Derived.Test.YtbpgnhakphpobaaDoorCount
namespace Go.Proofs.YtbpgnhakphpobaaDoor
open Go.RowKit
set_option linter.unusedVariables false
theorem andNot_self (x : Int) (hx : U64 x) : bits .andNot .u64 x x = 0 := by
  obtain ⟨h0, h1⟩ := hx
  obtain ⟨n, rfl⟩ := Int.eq_ofNat_of_zero_le h0
  have hn : n < 2 ^ 64 := by omega
  rw [u64_andNot_nat _ _ hn hn]
  have : n &&& (18446744073709551615 - n) = 0 := by
    apply Nat.eq_of_testBit_eq
    intro i
    rw [Nat.testBit_and, testBit_not64 _ _ hn, Nat.zero_testBit]
    cases n.testBit i <;> simp
  omega
theorem getD_U64 {l : List Int} (h : ∀ z ∈ l, U64 z) (i : Nat) : U64 (l.getD i 0) := by
  by_cases hi : i < l.length
  · rw [getD_in l i hi]; exact h _ (List.getElem_mem hi)
  · have : l.getD i 0 = 0 := by simp [List.getD_eq_getElem?_getD, hi]
    rw [this]; exact ⟨by decide, by decide⟩
theorem fillL_same (a b : List Int) (N : Nat) (h : ∀ i, a.getD i 0 = b.getD i 0) (hU : ∀ z ∈ a, U64 z) : fillL a b N N = List.replicate N 0 := by
  unfold fillL
  apply List.ext_getElem
  · simp
  · intro i h1 h2
    simp only [List.getElem_map, List.getElem_range, List.getElem_replicate]
    rw [← h i, andNot_self _ (getD_U64 hU i)]
    simp
theorem cntL_zeros : ∀ N : Nat, cntL (List.replicate N 0) = 0
  | 0 => rfl
  | n + 1 => by
    have := cntL_zeros n
    unfold cntL at *
    rw [List.replicate_succ, List.map_cons, List.sum_cons, this]
    decide
end Go.Proofs.YtbpgnhakphpobaaDoor
