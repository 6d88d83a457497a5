/- The walk of the law LayoutHeap: it returns true, whatever it is given. No condition but that each number fits its kind. -/
import Derived.Test.YtahppkdbaagcgaaLayd
import Derived.Deep.CutBlock
import Derived.Deep.DeepCutAuto
namespace Go.Proofs.Ytahppkdbaagcgaa
open Go.RowKit

set_option maxHeartbeats 400000 in
theorem laid_any (w : World) : Calls Try.prog 5 #[] w fun e w' => e = .returned (.bool true) ∧ Below w.heap.size w w' := by
  have hR : Right 2 1 4 := by unfold Right; omega
  have N := Lib.hid (fun W => plan_yes 2 1 4 W hR)
  have B := fun W => base_yes 2 1 4 W hR
  have C := fun W => cells_yes 2 1 4 W hR
  have S := fun W => slot_any 2 1 4 0 5 W ⟨by decide, by decide⟩
  have M := fun W => mark_any 2 1 4 1 W
  rw [show baseI 2 1 4 = 64 by decide] at B C
  rw [show slotI 2 1 4 0 5 = 22 by decide] at S
  rw [show rowI 2 1 4 2 1 = 30 by decide] at M
  have B' := Lib.hid B
  have C' := Lib.hid C
  have S' := Lib.hid S
  have M' := Lib.hid M
  clear hR B C S M
  go_enter Try.func5, Try.ntmps5
  go_wp2_with fail
  refine (N.out _).mono ?_; rintro e w1 ⟨rfl, hb1⟩
  have c1 := planNew w1 2 1 4 25
  go_wp2_with fail
  refine (B'.out _).mono ?_; rintro e w2 ⟨rfl, hb2⟩
  have c2 := planKeep c1 hb2
  obtain ⟨d20, d21, d22⟩ := c2.1
  go_wp2_with fail
  refine (C'.out _).mono ?_; rintro e w3 ⟨rfl, hb3⟩
  have c3 := planKeep c2 hb3
  obtain ⟨d30, d31, d32⟩ := c3.1
  go_wp2_with fail
  refine (S'.out _).mono ?_; rintro e w4 ⟨rfl, hb4⟩
  have c4 := planKeep c3 hb4
  obtain ⟨d40, d41, d42⟩ := c4.1
  go_wp2_with fail
  refine (M'.out _).mono ?_; rintro e w5 ⟨rfl, hb5⟩
  have c5 := planKeep c4 hb5
  obtain ⟨d50, d51, d52⟩ := c5.1
  go_wp2
  go_ret
  exact ⟨rfl, hb1.trans (c5.2.mono hb1.size)⟩
theorem u64_wrap (x : Int) : U64 (IntKind.u64.wrap x) := by
  unfold U64; rw [IntKind.wrap_u64]; omega
end Go.Proofs.Ytahppkdbaagcgaa
