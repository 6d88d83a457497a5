/- MaskCounts: the walk of the whole. Conditions: the arguments are lists of words, the table of math/bits lies as the start lays it. -/
import Derived.Test.YtbpgnhakphpobaaDoorMnum
import Derived.Test.YtbpgnhakphpobaaDoorMasked
namespace Go.Proofs.YtbpgnhakphpobaaDoor
open Go.RowKit
set_option linter.unusedVariables false

/-- a list that lies there, whatever is done beside it -/
def LstAll (w : World) (v : Value) (l : List Int) : Prop := Lst .u64 w v l ∧ (∀ z ∈ l, U64 z) ∧ l.length ≤ 1024
theorem LstAll.grew {w w' : World} {v : Value} {l : List Int} (h : LstAll w v l) (hb : Below w.heap.size w w') : LstAll w' v l := ⟨h.1.below hb, h.2⟩
theorem row_all {w : World} {a : Option Addr} {len cap : Nat} {zs : List Int} (h : IsRow .u64 w a len cap zs) (hm : len ≤ 8) : LstAll w (.slice a len cap) (zs.take len) ∧ (zs.take len).length = len := by
  obtain ⟨h1, h2, h3, h4⟩ := h.lst
  have e : (zs.take len).length = len := h4
  exact ⟨⟨h1, fun z hz => wf_U64 (h2 z hz), by rw [e]; omega⟩, e⟩
end Go.Proofs.YtbpgnhakphpobaaDoor
