/- What the document's Without of a set returns: as the program's. Condition: the list is short. -/
import Derived.Test.YtbpgnhakphpobaaDoorMrwi
namespace Go.Proofs.YtbpgnhakphpobaaDoor
open Go.RowKit
set_option linter.unusedVariables false

def neL (R : List Int) (p : Int) (k : Nat) : List Int := (R.take k).filter (fun q => q != p)
theorem neL_len (R : List Int) (p : Int) (k : Nat) : (neL R p k).length ≤ R.length := Nat.le_trans (List.length_filter_le _ _) (by rw [List.length_take]; omega)
theorem neL_yes (R : List Int) (p : Int) (k : Nat) (hk : k < R.length) (h : R.getD k 0 ≠ p) : neL R p (k + 1) = neL R p k ++ [R.getD k 0] := by
  unfold neL
  rw [List.take_succ_eq_append_getElem hk, List.filter_append, getD_in R k hk]
  rw [getD_in R k hk] at h
  simp [h]
theorem neL_no (R : List Int) (p : Int) (k : Nat) (hk : k < R.length) (h : R.getD k 0 = p) : neL R p (k + 1) = neL R p k := by
  unfold neL
  rw [List.take_succ_eq_append_getElem hk, List.filter_append]
  rw [getD_in R k hk] at h
  simp [h]
end Go.Proofs.YtbpgnhakphpobaaDoor
