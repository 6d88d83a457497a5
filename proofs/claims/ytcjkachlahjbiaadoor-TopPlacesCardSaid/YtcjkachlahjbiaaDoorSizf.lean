/- The document's Starts, Cell, Free, First and Valid of layer 5. No condition but that each number fits its kind. -/
import Derived.Test.YtcjkachlahjbiaaDoorBegins
namespace Go.Proofs.YtcjkachlahjbiaaDoor
open Go.RowKit
set_option linter.unusedVariables false

theorem filt_snoc (L : List Int) (p : Int → Bool) (k : Nat) (h : k < L.length) : (L.take (k + 1)).filter p = (L.take k).filter p ++ (if p (L.getD k 0) then [L.getD k 0] else []) := by
  rw [List.take_add_one, List.getElem?_eq_getElem h, List.filter_append, List.getD_eq_getElem?_getD, List.getElem?_eq_getElem h]
  simp only [Option.toList, Option.getD_some]
  cases hp : p L[k] <;> simp [hp]

end Go.Proofs.YtcjkachlahjbiaaDoor
