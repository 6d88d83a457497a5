/- Words of the laws of objects, as arguments. No condition. -/
import Derived.Test.YtpoddnfooaddgaaGreatDoorGObjectsBuilds18
namespace Go.Proofs.YtpoddnfooaddgaaGreatDoor
open Go.ChangeShapes Go.WideShapes Go.ChangeAt Go.RowKit Go.Deep
set_option linter.unusedVariables false
section
variable {H : Type} {enc : TypeId × Value → H} {w : World} {base : Nat} {spare : Nat → Bool} {held : Bool}
theorem open_words {fuel : Nat} {v : Value} {x : DataW H × List MemPlace} (h : DataW.trod enc Tryz.prog w base spare held fuel 26 [v] = some x) : ∃ l, RdRow 2 ElW w.heap.size w v l :=
  rdField Tryz.underlying26 Tryz.underlying100 (by kernel_rfl) (by kernel_rfl) rfl rfl h fun b k n hf => by
    obtain ⟨v0, y0, c0, t0⟩ := hf 0 _ rfl
    obtain ⟨v1, y1, c1, t1⟩ := hf 1 _ rfl
    obtain ⟨p, rfl, hp⟩ := leaf_int Tryz.underlying3 t0
    obtain ⟨q, rfl, hq⟩ := leaf_int Tryz.underlying57 t1
    exact ⟨(p, q), c0, c1, wf_U64 hq⟩
end
end Go.Proofs.YtpoddnfooaddgaaGreatDoor
