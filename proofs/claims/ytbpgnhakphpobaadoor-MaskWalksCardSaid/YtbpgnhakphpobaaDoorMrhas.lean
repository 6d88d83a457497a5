/- What the document's Has, Next, Clear and Fit of a set return, at every list. Condition: the list is short. -/
import Derived.Test.YtbpgnhakphpobaaDoorMnum
import Derived.Test.YtbpgnhakphpobaaDoorMof
import Derived.Test.YtbpgnhakphpobaaDoorPlaces
namespace Go.Proofs.YtbpgnhakphpobaaDoor
open Go.RowKit
set_option linter.unusedVariables false

def hasP (l : List Int) (p : Nat) : Bool := tbI (l.getD (p / 64) 0) (p % 64)
theorem hasP_out {l : List Int} {p : Nat} (h : 64 * l.length ≤ p) : hasP l p = false := by
  unfold hasP
  rw [show l.getD (p / 64) 0 = 0 by simp [List.getD_eq_getElem?_getD, show ¬ p / 64 < l.length by omega], tb_zero]
/-- the first one of many numbers -/
def rnextI (h : Nat → Bool) : Nat → Nat → Int
  | 0, _ => -1
  | d + 1, i => if h i then (i : Int) else rnextI h d (i + 1)
/-- the first room of n, number by number -/
def rfitI (h : Nat → Bool) (n : Int) : Nat → Nat → Nat → Int
  | 0, _, _ => -1
  | d + 1, i, f => if (((if h i then 0 else f + 1 : Nat)) : Int) = n then (i : Int) - n + 1 else rfitI h n d (i + 1) (if h i then 0 else f + 1)
end Go.Proofs.YtbpgnhakphpobaaDoor
