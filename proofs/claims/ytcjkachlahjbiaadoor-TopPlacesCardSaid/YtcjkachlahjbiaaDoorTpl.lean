/- The law TopPlaces: the walk at arguments as the frame hands them. Conditions: each number fits its kind, the tables lie as the start lays them. -/
import Derived.Test.YtcjkachlahjbiaaDoorTpw
namespace Go.Proofs.YtcjkachlahjbiaaDoor
open Go.RowKit
set_option linter.unusedVariables false
theorem places_law (x1 x2 x3 : Int) (A : Option Addr) (n cap : Nat) (zs : List Int) (w : World) (w1 : (Lit.int .i64 x1).wf = true) (w2 : (Lit.int .i64 x2).wf = true) (w3 : (Lit.int .i64 x3).wf = true) (h : IsRow .i64 w A n cap zs) (hTab : Tab w) (hWid : Wid w) :
    Calls Tryd.prog 3 #[.agg #[.int .i64 x1, .int .i64 x2, .int .i64 x3, .slice A n cap]] w fun e w' => e = .returned (.bool true) ∧ Below w.heap.size w w' := by
  obtain ⟨hl, _, _, hlen⟩ := h.lst
  exact places_walk x1 x2 x3 A n cap _ w hl hlen hTab hWid
end Go.Proofs.YtcjkachlahjbiaaDoor
