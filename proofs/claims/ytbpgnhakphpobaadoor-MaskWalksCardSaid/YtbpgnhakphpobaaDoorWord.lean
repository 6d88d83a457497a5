/- What the functions of package word return, for all integers of their kinds: bound, valid, Mask, Get, Put. No condition. -/
import Derived.Test.YtbpgnhakphpobaaDoorQuiet
namespace Go.Proofs.YtbpgnhakphpobaaDoor
open Go.RowKit

set_option maxHeartbeats 400000 in
theorem bound_any (n : Int) (w : World) :
    Calls Tryd.prog 30 #[.int .i64 n] w fun e w' => e = .returned (.int .i64 (bnd n)) ∧ Quiet w w' := by
  by_cases h1 : n < 0
  · have hb : bnd n = 0 := by unfold bnd; rw [if_pos h1]
    rw [hb]; clear hb
    go_enter Tryd.func30, Tryd.ntmps30
    go_wp2
    go_ret
    exact ⟨rfl, Quiet.refl _⟩
  · by_cases h2 : 64 < n
    · have hb : bnd n = 64 := by unfold bnd; rw [if_neg h1, if_pos h2]
      rw [hb]; clear hb
      go_enter Tryd.func30, Tryd.ntmps30
      go_wp2
      go_ret
      exact ⟨rfl, Quiet.refl _⟩
    · have hb : bnd n = n := by unfold bnd; rw [if_neg h1, if_neg h2]
      rw [hb]; clear hb
      go_enter Tryd.func30, Tryd.ntmps30
      go_wp2
      go_ret
      exact ⟨rfl, Quiet.refl _⟩

set_option maxHeartbeats 400000 in
theorem mask_any (n : Int) (w : World) :
    Calls Tryd.prog 27 #[.int .i64 n] w fun e w' => e = .returned (.int .u64 (maskI n)) ∧ Quiet w w' := by
  have hb := bnd_bd n
  go_enter Tryd.func27, Tryd.ntmps27
  go_wp2_with (go_at_call 30; refine (bound_any _ _).mono ?_; rintro e w1 ⟨rfl, hq⟩)
  go_ret
  exact ⟨ret_int (mask_wrap _ hb.1 hb.2), hq⟩

end Go.Proofs.YtbpgnhakphpobaaDoor
