/- MaskPlaces: the walk of the whole. Conditions: the argument is a list of words, the table of math/bits lies as the start lays it. -/
import Derived.Test.YtbpgnhakphpobaaDoorMrwo
import Derived.Test.YtbpgnhakphpobaaDoorMnexl
import Derived.Test.YtbpgnhakphpobaaDoorMroom
namespace Go.Proofs.YtbpgnhakphpobaaDoor
open Go.RowKit
set_option linter.unusedVariables false

theorem cnt_plcs (X : Nat) : ∀ n, (plcs X n).length = cnt X n := plcs_length X
theorem count_places (l : List Int) : ((plL l).length : Int) = cntL l := by
  have h : ∀ m, ((plR l m).length : Int) = ((List.range m).map fun i => onesI (l.getD i 0)).sum := by
    intro m
    induction m with
    | zero => rfl
    | succ m ih =>
      rw [plR_succ, List.length_append, List.length_map, plcs_length, List.range_succ, List.map_append, List.sum_append, ← ih]
      simp [onesI]
  rw [cntL_range l l.length (Nat.le_refl _), ← h]
  rfl
set_option maxHeartbeats 400000 in
theorem mbit_big (at' : Nat) (w : World) :
    Calls Tryd.prog 20 #[.int .i64 at'] w fun e w' => e = .returned (.int .u64 (mbitI at')) ∧ Quiet w w' := by
  have h0 : (0 : Int) ≤ (at' : Int) := by omega
  go_enter Tryd.func20, Tryd.ntmps20
  go_wp2
  go_ret
  exact ⟨ret_int (wrap_pow _ (Nat.mod_lt _ (by decide))), Quiet.refl _⟩
end Go.Proofs.YtbpgnhakphpobaaDoor
