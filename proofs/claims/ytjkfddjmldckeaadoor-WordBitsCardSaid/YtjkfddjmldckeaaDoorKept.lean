/- The walk of the law WordKept: it returns true, whatever it is given. No condition but that each number fits its kind. -/
import Derived.Test.YtjkfddjmldckeaaDoorGap
import Derived.Test.YtjkfddjmldckeaaDoorRow
namespace Go.Proofs.YtjkfddjmldckeaaDoor
open Go.RowKit

set_option maxHeartbeats 400000 in
theorem worded_any (w : World) : Calls Tryd.prog 8 #[] w fun e w' => e = .returned (.bool true) ∧ Quiet w w' := by
  have p := fun W => put_yes 0 4 4 15 W ⟨by decide, by decide⟩ (by decide) (by decide) (by decide)
  rw [show putI 0 4 4 15 = 240 by decide] at p
  have g := fun W => gap_any 9 2 W ⟨by decide, by decide⟩ (by decide)
  rw [show gapI 9 2 = 1 by decide] at g
  have P := Lib.hid p
  have G := Lib.hid g
  clear p g
  go_enter Tryd.func8, Tryd.ntmps8
  go_wp2_with (first | (go_at_call 21; refine (P.out _).mono ?_; rintro e w1 ⟨rfl, hq⟩) | (go_at_call 22; refine (G.out _).mono ?_; rintro e w2 ⟨rfl, hq2⟩))
  go_ret
  exact ⟨rfl, hq.trans hq2⟩

theorem i64_bd {x : Int} (h : (Lit.int .i64 x).wf = true) : -9223372036854775808 ≤ x ∧ x ≤ 9223372036854775807 := by
  simp [Lit.wf, IntKind.min, IntKind.max, IntKind.signed, IntKind.bits] at h
  exact ⟨by omega, by omega⟩
end Go.Proofs.YtjkfddjmldckeaaDoor
