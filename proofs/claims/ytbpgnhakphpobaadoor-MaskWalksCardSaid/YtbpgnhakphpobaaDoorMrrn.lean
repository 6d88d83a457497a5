/- The rows of a rising list, one place at a time: numbers alone. No condition. -/
import Derived.Test.YtbpgnhakphpobaaDoorMfin
namespace Go.Proofs.YtbpgnhakphpobaaDoor
open Go.RowKit
set_option linter.unusedVariables false

def rowsAt (P : List Int) (i : Nat) : List (Int × Int) := runsI 0 0 (P.take i)
theorem rows_inner (P : List Int) : ∀ i, i + 1 ≤ P.length → ∃ A b n, 0 < n ∧ n ≤ (i : Int) + 1 ∧ (∀ rest, runsI 0 0 (P.take (i + 1) ++ rest) = A ++ runsI b n rest) ∧ b + n = P.getD i 0 + 1
  | 0, h => by
    refine ⟨[], P.getD 0 0, 1, by omega, by omega, fun rest => ?_, by omega⟩
    rw [List.take_succ_eq_append_getElem (by omega), getD_in P 0 (by omega)]
    simp [runsI]
  | i + 1, h => by
    obtain ⟨A, b, n, h1, h2, h3, h4⟩ := rows_inner P i (by omega)
    have ht : P.take (i + 1 + 1) = P.take (i + 1) ++ [P.getD (i + 1) 0] := by
      rw [List.take_succ_eq_append_getElem (by omega), getD_in P (i + 1) (by omega)]
    by_cases e : P.getD (i + 1) 0 = b + n
    · refine ⟨A, b, n + 1, by omega, by omega, fun rest => ?_, by omega⟩
      rw [ht, List.append_assoc, h3, List.singleton_append]
      simp only [runsI]
      rw [if_pos h1, if_pos e]
    · refine ⟨A ++ [(b, n)], P.getD (i + 1) 0, 1, by omega, by omega, fun rest => ?_, by omega⟩
      rw [ht, List.append_assoc, h3, List.singleton_append]
      simp only [runsI]
      rw [if_pos h1, if_neg e, List.append_assoc, List.singleton_append]
theorem rows_zero (P : List Int) : rowsAt P 0 = [] := rfl
theorem rows_end (P : List Int) : rowsAt P P.length = runsI 0 0 P := by unfold rowsAt; rw [List.take_length]
theorem rows_more (P : List Int) (i : Nat) (h0 : 0 < i) (h1 : i < P.length) (e : P.getD i 0 = P.getD (i - 1) 0 + 1) : ∃ A b n, 0 < n ∧ n ≤ (i : Int) ∧ rowsAt P i = A ++ [(b, n)] ∧ rowsAt P (i + 1) = A ++ [(b, n + 1)] := by
  obtain ⟨j, rfl⟩ : ∃ j, i = j + 1 := ⟨i - 1, by omega⟩
  obtain ⟨A, b, n, g1, g2, g3, g4⟩ := rows_inner P j (by omega)
  rw [show j + 1 - 1 = j by omega] at e
  refine ⟨A, b, n, g1, by omega, ?_, ?_⟩
  · have := g3 []
    rw [List.append_nil] at this
    unfold rowsAt
    rw [this]
    simp only [runsI]
    rw [if_pos g1]
  · unfold rowsAt
    rw [List.take_succ_eq_append_getElem h1, ← getD_in P (j + 1) h1, g3]
    simp only [runsI]
    rw [if_pos g1, if_pos (by omega), if_pos (by omega)]
theorem rows_new (P : List Int) (i : Nat) (h1 : i < P.length) (e : i = 0 ∨ P.getD i 0 ≠ P.getD (i - 1) 0 + 1) : rowsAt P (i + 1) = rowsAt P i ++ [(P.getD i 0, 1)] := by
  rcases Nat.eq_zero_or_pos i with rfl | h0
  · unfold rowsAt
    rw [List.take_succ_eq_append_getElem h1, ← getD_in P 0 h1]
    simp [runsI]
  · obtain ⟨j, rfl⟩ : ∃ j, i = j + 1 := ⟨i - 1, by omega⟩
    obtain ⟨A, b, n, g1, g2, g3, g4⟩ := rows_inner P j (by omega)
    have e2 := e.resolve_left (by omega)
    rw [show j + 1 - 1 = j by omega] at e2
    have hj : runsI 0 0 (P.take (j + 1)) = A ++ [(b, n)] := by
      have := g3 []
      rw [List.append_nil] at this
      rw [this]
      simp only [runsI]
      rw [if_pos g1]
    unfold rowsAt
    rw [hj, List.take_succ_eq_append_getElem h1, ← getD_in P (j + 1) h1, g3]
    simp only [runsI]
    rw [if_pos g1, if_neg (by omega), if_pos (by omega), List.append_assoc, List.singleton_append]
theorem rows_len (P : List Int) : ∀ i, i ≤ P.length → (rowsAt P i).length ≤ i
  | 0, _ => by rw [rows_zero]; simp
  | i + 1, h => by
    have ih := rows_len P i (by omega)
    by_cases e : i = 0 ∨ P.getD i 0 ≠ P.getD (i - 1) 0 + 1
    · rw [rows_new P i (by omega) e, List.length_append, List.length_singleton]; omega
    · obtain ⟨A, b, n, _, _, g1, g2⟩ := rows_more P i (by omega) (by omega) (by omega)
      rw [g1, List.length_append, List.length_singleton] at ih
      rw [g2, List.length_append, List.length_singleton]; omega
end Go.Proofs.YtbpgnhakphpobaaDoor
