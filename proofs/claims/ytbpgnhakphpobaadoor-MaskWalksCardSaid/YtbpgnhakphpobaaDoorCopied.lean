/- What mask.copied, With and Without return: new lists. No condition but that the lists are short. -/
import Derived.Test.YtbpgnhakphpobaaDoorMask
import Derived.Laws.CopyOwn
namespace Go.Proofs.YtbpgnhakphpobaaDoor
open Go.RowKit
set_option linter.unusedVariables false
def padL (l : List Int) (n : Nat) : List Int := l ++ List.replicate (n - l.length) 0
theorem padL_len (l : List Int) (n : Nat) (h : l.length ≤ n) : (padL l n).length = n := by simp [padL]; omega
theorem padL_get (l : List Int) (n i : Nat) : (padL l n).getD i 0 = l.getD i 0 := by
  unfold padL
  by_cases h : i < l.length
  · simp [List.getD_eq_getElem?_getD, List.getElem?_append_left h]
  · rw [List.getD_eq_getElem?_getD, List.getD_eq_getElem?_getD, List.getElem?_append_right (by omega), List.getElem?_eq_none (l := l) (by omega)]
    by_cases h2 : i - l.length < n - l.length
    · simp [h2]
    · simp [h2]
/-- The cells of a new list of words, its block known whole. -/
def NewRow (w0 : World) (L : List Int) (e : Ending) (w' : World) : Prop :=
  ∃ g, e = .returned (.slice (some ⟨g, 0, none⟩) L.length L.length) ∧ Blk w' g (L.map (Value.int .u64)).toArray 24 ∧ w0.heap.size ≤ g ∧ Below w0.heap.size w0 w'
theorem splice_pad (l : List Int) (n : Nat) (h : l.length ≤ n) : splice (zeros n).toList 0 (l.map (Value.int .u64)) = (padL l n).map (Value.int .u64) := by
  unfold splice zeros padL
  simp
theorem lst_len {w : World} {v : Value} {l : List Int} (h : Lst .u64 w v l) : ∃ a cap, v = .slice a l.length cap ∧ (0 < l.length → ∃ b o, a = some ⟨b, o, none⟩ ∧ ∀ i, i < l.length → w.cell? ⟨b, o + i, none⟩ = some (.int .u64 (l.getD i 0))) := by
  rcases h with ⟨rfl, a, cap, rfl⟩ | ⟨b, o, cap, rfl, h1, h2, h3⟩
  · exact ⟨a, cap, rfl, fun h => absurd h (by simp)⟩
  · exact ⟨_, cap, rfl, fun _ => ⟨b, o, rfl, h3⟩⟩
end Go.Proofs.YtbpgnhakphpobaaDoor
