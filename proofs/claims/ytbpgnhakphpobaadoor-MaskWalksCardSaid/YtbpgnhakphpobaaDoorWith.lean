/- What mask.With and Without return: new lists. No condition but that the lists are short and the place fits. -/
import Derived.Test.YtbpgnhakphpobaaDoorCopied
import Derived.Deep.RegionWith
namespace Go.Proofs.YtbpgnhakphpobaaDoor
open Go.RowKit
set_option linter.unusedVariables false
def withL (l : List Int) (at' : Nat) : List Int := (padL l (if l.length < at' / 64 + 1 then at' / 64 + 1 else l.length)).set (at' / 64) (bits .or .u64 (l.getD (at' / 64) 0) (mbitI at'))
theorem withL_len (l : List Int) (at' : Nat) : (withL l at').length = if l.length < at' / 64 + 1 then at' / 64 + 1 else l.length := by
  unfold withL
  rw [List.length_set, padL_len]
  split <;> omega
def NewRow2 (w0 : World) (L : List Int) (e : Ending) (w' : World) : Prop :=
  ∃ g, e = .returned (.tuple #[.slice (some ⟨g, 0, none⟩) L.length L.length, .int .i64 0]) ∧ Blk w' g (L.map (Value.int .u64)).toArray 24 ∧ w0.heap.size ≤ g ∧ Below w0.heap.size w0 w'
theorem blk_word {w : World} {g : Nat} {L : List Int} (h : Blk w g (L.map (Value.int .u64)).toArray 24) (i : Nat) (hi : i < L.length) : w.cell? ⟨g, i, none⟩ = some (.int .u64 (L.getD i 0)) := by
  refine h.val i ?_
  simp [List.getD_eq_getElem?_getD, hi]
theorem blk_set {w : World} {g : Nat} {L : List Int} (h : Blk w g (L.map (Value.int .u64)).toArray 24) (i : Nat) (v : Int) : Blk (w.setCell ⟨g, i, none⟩ (.int .u64 v)) g ((L.set i v).map (Value.int .u64)).toArray 24 := by
  have := h.set i (.int .u64 v)
  rw [List.map_set]
  simpa using this
theorem blk_lst {w : World} {g : Nat} {L : List Int} (h : Blk w g (L.map (Value.int .u64)).toArray 24) (hm : L.length ≤ maxLen) : Lst .u64 w (.slice (some ⟨g, 0, none⟩) L.length L.length) L := by
  rcases Nat.eq_zero_or_pos L.length with h0 | h0
  · exact .inl ⟨List.eq_nil_of_length_eq_zero h0, _, _, by rw [h0]⟩
  · exact .inr ⟨g, 0, _, rfl, h0, hm, fun i hi => by rw [Nat.zero_add]; exact blk_word h i hi⟩
end Go.Proofs.YtbpgnhakphpobaaDoor
