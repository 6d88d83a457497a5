/- What the functions of package word return, for all integers of their kinds: bound, valid, Mask, Get, Put. No condition. -/
import Derived.Test.YtjkfddjmldckeaaDoorQuiet
namespace Go.Proofs.YtjkfddjmldckeaaDoor
open Go.RowKit

set_option maxHeartbeats 400000 in
theorem bound_any (n : Int) (w : World) :
    Calls Tryd.prog 28 #[.int .i64 n] w fun e w' => e = .returned (.int .i64 (bnd n)) ∧ Quiet w w' := by
  by_cases h1 : n < 0
  · have hb : bnd n = 0 := by unfold bnd; rw [if_pos h1]
    rw [hb]; clear hb
    go_enter Tryd.func28, Tryd.ntmps28
    go_wp2
    go_ret
    exact ⟨rfl, Quiet.refl _⟩
  · by_cases h2 : 64 < n
    · have hb : bnd n = 64 := by unfold bnd; rw [if_neg h1, if_pos h2]
      rw [hb]; clear hb
      go_enter Tryd.func28, Tryd.ntmps28
      go_wp2
      go_ret
      exact ⟨rfl, Quiet.refl _⟩
    · have hb : bnd n = n := by unfold bnd; rw [if_neg h1, if_neg h2]
      rw [hb]; clear hb
      go_enter Tryd.func28, Tryd.ntmps28
      go_wp2
      go_ret
      exact ⟨rfl, Quiet.refl _⟩

set_option maxHeartbeats 400000 in
theorem valid_any (a d : Int) (w : World)  :
    Calls Tryd.prog 24 #[.int .i64 a, .int .i64 d] w fun e w' => e = .returned (.bool (fldB a d)) ∧ Quiet w w' := by
  by_cases hf : 0 ≤ a ∧ a < 64 ∧ 1 ≤ d ∧ d ≤ 64 - a
  · rw [fldB_mk hf]
    obtain ⟨h1, h2, h3, h4⟩ := hf
    go_enter Tryd.func24, Tryd.ntmps24
    go_wp2
    go_ret
    exact ⟨rfl, Quiet.refl _⟩
  · have hb : fldB a d = false := by unfold fldB; exact decide_eq_false hf
    rw [hb]; clear hb
    by_cases h1 : 0 ≤ a
    · by_cases h2 : a < 64
      · by_cases h3 : 1 ≤ d
        · have h4 : ¬ d ≤ 64 - a := fun h => hf ⟨h1, h2, h3, h⟩
          clear hf
          go_enter Tryd.func24, Tryd.ntmps24
          go_wp2
          go_ret
          exact ⟨rfl, Quiet.refl _⟩
        · clear hf
          go_enter Tryd.func24, Tryd.ntmps24
          go_wp2
          go_ret
          exact ⟨rfl, Quiet.refl _⟩
      · clear hf
        go_enter Tryd.func24, Tryd.ntmps24
        go_wp2
        go_ret
        exact ⟨rfl, Quiet.refl _⟩
    · clear hf
      go_enter Tryd.func24, Tryd.ntmps24
      go_wp2
      go_ret
      exact ⟨rfl, Quiet.refl _⟩

set_option maxHeartbeats 400000 in
theorem mask_any (n : Int) (w : World) :
    Calls Tryd.prog 16 #[.int .i64 n] w fun e w' => e = .returned (.int .u64 (maskI n)) ∧ Quiet w w' := by
  have hb := bnd_bd n
  go_enter Tryd.func16, Tryd.ntmps16
  go_wp2_with (go_at_call 28; refine (bound_any _ _).mono ?_; rintro e w1 ⟨rfl, hq⟩)
  go_ret
  exact ⟨ret_int (mask_wrap _ hb.1 hb.2), hq⟩

set_option maxHeartbeats 400000 in
theorem get_yes (x a d : Int) (w : World) (hx : U64 x) (h : fldB a d = true) :
    Calls Tryd.prog 10 #[.int .u64 x, .int .i64 a, .int .i64 d] w fun e w' => e = .returned (.tuple #[.int .u64 (getI x a d), .int .i64 0]) ∧ Quiet w w' := by
  rw [← get_bits x a d hx h]
  obtain ⟨h1, h2, h3, h4⟩ := fldB_true h
  go_enter Tryd.func10, Tryd.ntmps10
  go_wp2_with (go_at_call 24; refine (valid_any _ _ _).mono ?_; rintro e w1 ⟨rfl, hq⟩)
  go_quiet ((go_at_call 16; exact qcall (mask_any _ _)))
  go_wp2
  go_ret2
  exact ⟨rfl, hq.trans Quiet.drew⟩

set_option maxHeartbeats 400000 in
theorem get_no (x a d : Int) (w : World) (h : fldB a d = false) :
    Calls Tryd.prog 10 #[.int .u64 x, .int .i64 a, .int .i64 d] w fun e w' => e = .returned (.tuple #[.int .u64 0, .int .i64 1]) ∧ Quiet w w' := by
  go_enter Tryd.func10, Tryd.ntmps10
  go_wp2_with (go_at_call 24; refine (valid_any _ _ _).mono ?_; rintro e w1 ⟨rfl, hq⟩)
  go_ret2
  exact ⟨rfl, hq⟩

set_option maxHeartbeats 400000 in
theorem put_yes (x a d v : Int) (w : World) (hx : U64 x) (hv0 : 0 ≤ v) (h : fldB a d = true) (hv : v ≤ maskI d) :
    Calls Tryd.prog 21 #[.int .u64 x, .int .i64 a, .int .i64 d, .int .u64 v] w fun e w' => e = .returned (.tuple #[.int .u64 (putI x a d v), .int .i64 0]) ∧ Quiet w w' := by
  rw [← put_bits x a d v hx h hv0 hv]
  obtain ⟨h1, h2, h3, h4⟩ := fldB_true h
  go_enter Tryd.func21, Tryd.ntmps21
  go_wp2_with (first | (go_at_call 24; refine (valid_any _ _ _).mono ?_; rintro e w1 ⟨rfl, hq⟩) | (go_at_call 16; refine (mask_any _ _).mono ?_; rintro e w2 ⟨rfl, hq2⟩))
  go_quiet ((go_at_call 16; exact qcall (mask_any _ _)))
  go_wp2
  go_ret2
  exact ⟨rfl, (hq.trans hq2).trans Quiet.drew⟩

set_option maxHeartbeats 400000 in
theorem put_no (x a d v : Int) (w : World) (h : fldB a d = false) :
    Calls Tryd.prog 21 #[.int .u64 x, .int .i64 a, .int .i64 d, .int .u64 v] w fun e w' => e = .returned (.tuple #[.int .u64 0, .int .i64 1]) ∧ Quiet w w' := by
  go_enter Tryd.func21, Tryd.ntmps21
  go_wp2_with (go_at_call 24; refine (valid_any _ _ _).mono ?_; rintro e w1 ⟨rfl, hq⟩)
  go_ret2
  exact ⟨rfl, hq⟩
set_option maxHeartbeats 400000 in
theorem put_big (x a d v : Int) (w : World) (h : fldB a d = true) (hv : maskI d < v) :
    Calls Tryd.prog 21 #[.int .u64 x, .int .i64 a, .int .i64 d, .int .u64 v] w fun e w' => e = .returned (.tuple #[.int .u64 0, .int .i64 3]) ∧ Quiet w w' := by
  go_enter Tryd.func21, Tryd.ntmps21
  go_wp2_with (first | (go_at_call 24; refine (valid_any _ _ _).mono ?_; rintro e w1 ⟨rfl, hq⟩) | (go_at_call 16; refine (mask_any _ _).mono ?_; rintro e w2 ⟨rfl, hq2⟩))
  go_ret2
  exact ⟨rfl, hq.trans hq2⟩
end Go.Proofs.YtjkfddjmldckeaaDoor
