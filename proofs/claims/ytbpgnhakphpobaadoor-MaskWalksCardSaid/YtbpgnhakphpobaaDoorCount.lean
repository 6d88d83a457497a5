/- What word.Ones and mask's Count, Minus, Within, Same return. No condition but that the lists are short and each number has 64 bits. -/
import Derived.Test.YtbpgnhakphpobaaDoorWithout
namespace Go.Proofs.YtbpgnhakphpobaaDoor
open Go.RowKit
set_option linter.unusedVariables false
theorem cnt_le (x : Nat) : ∀ n, cnt x n ≤ n
  | 0 => Nat.le_refl _
  | n + 1 => by
    have := cnt_le x n
    have h : (x.testBit n).toNat ≤ 1 := by cases x.testBit n <;> decide
    unfold cnt; omega
theorem onesI_bd (x : Int) : 0 ≤ onesI x ∧ onesI x ≤ 64 := by
  unfold onesI
  have := cnt_le x.toNat 64
  omega
def cntL (l : List Int) : Int := (l.map onesI).sum
theorem cntL_take (l : List Int) (k : Nat) (h : k < l.length) : cntL (l.take (k + 1)) = cntL (l.take k) + onesI (l.getD k 0) := by
  unfold cntL
  rw [List.take_succ_eq_append_getElem h, List.map_append, List.sum_append, getD_in l k h]
  simp only [List.map_cons, List.map_nil, List.sum_cons, List.sum_nil]
  omega
theorem cntL_bd : ∀ l : List Int, 0 ≤ cntL l ∧ cntL l ≤ 64 * l.length
  | [] => by simp [cntL]
  | x :: l => by
    have h1 := cntL_bd l
    have h2 := onesI_bd x
    simp only [cntL, List.map_cons, List.sum_cons, List.length_cons] at *
    omega
/-! the first alone -/
def minusL (a b : List Int) : List Int := (List.range (max a.length b.length)).map fun i => bits .andNot .u64 (a.getD i 0) (b.getD i 0)
def fillL (a b : List Int) (N k : Nat) : List Int := (List.range N).map fun i => if i < k then bits .andNot .u64 (a.getD i 0) (b.getD i 0) else 0
theorem fillL_len (a b : List Int) (N k : Nat) : (fillL a b N k).length = N := by simp [fillL]
theorem fillL_set (a b : List Int) (N k : Nat) (h : k < N) : (fillL a b N k).set k (bits .andNot .u64 (a.getD k 0) (b.getD k 0)) = fillL a b N (k + 1) := by
  unfold fillL
  apply List.ext_getElem
  · simp
  · intro i h1 h2
    simp only [List.getElem_set, List.getElem_map, List.getElem_range]
    by_cases e : k = i
    · subst e
      simp
    · rw [if_neg e]
      by_cases hi : i < k
      · simp [hi, show i < k + 1 by omega]
      · simp [hi, show ¬ i < k + 1 by omega]
theorem fillL_zero (a b : List Int) (N : Nat) : zeros N = ((fillL a b N 0).map (Value.int .u64)).toArray := by
  unfold zeros fillL
  congr 2
  apply List.ext_getElem
  · simp
  · intro i h1 h2
    simp
end Go.Proofs.YtbpgnhakphpobaaDoor
