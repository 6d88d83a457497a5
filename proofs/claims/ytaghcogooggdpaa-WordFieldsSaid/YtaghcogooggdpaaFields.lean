/- The walk of the law WordFields: it returns true, whatever it is given. No condition but that each number fits its kind. -/
import Derived.Test.YtaghcogooggdpaaKept
import Derived.Test.YtaghcogooggdpaaRput
namespace Go.Proofs.Ytaghcogooggdpaa
open Go.RowKit
set_option linter.unusedVariables false
set_option maxHeartbeats 1000000 in
theorem fields_no (x a d v : Int) (w : World) (hx : U64 x) (hv : U64 v) (h : fldB a d = false) :
    Calls Try.prog 7 #[.agg #[.int .u64 x, .int .i64 a, .int .i64 d, .int .u64 v]] w fun e w' => e = .returned (.bool true) ∧ Below w.heap.size w w' := by
  have G1 := Lib.hid (fun W => get_no x a d W h)
  have G2 := Lib.hid (fun W => rget_no x a d W h)
  have P1 := Lib.hid (fun W => put_no x a d v W h)
  have P2 := Lib.hid (fun W => rput_no x a d v W h)
  clear h
  generalize getI x a d = g at *
  generalize putI x a d v = p at *
  go_enter Try.func7, Try.ntmps7
  go_wp2
  go_quiet (fail)
  go_wp2_with (first | (go_at_call 13; refine (G1.out _).mono ?_; rintro e w1 ⟨rfl, hq1⟩) | (go_at_call 19; refine (G2.out _).mono ?_; rintro e w2 ⟨rfl, hq2⟩) | (go_at_call 12; refine (P1.out _).mono ?_; rintro e w3 ⟨rfl, hq3⟩) | (go_at_call 20; refine (P2.out _).mono ?_; rintro e w4 ⟨rfl, hq4⟩) | (go_at_call 11; refine (worded_any _).mono ?_; rintro e w5 ⟨rfl, hq5⟩))
  go_ret
  exact ⟨rfl, (((Below.refl _ _).alloc (Nat.le_refl _) _).trans Quiet.drew.below).trans (hq1.trans (hq2.trans (hq3.trans (hq4.trans hq5)))).below⟩
set_option maxHeartbeats 1000000 in
theorem fields_big (x a d v : Int) (w : World) (hx : U64 x) (hv : U64 v) (h : fldB a d = true) (hb : maskI d < v) :
    Calls Try.prog 7 #[.agg #[.int .u64 x, .int .i64 a, .int .i64 d, .int .u64 v]] w fun e w' => e = .returned (.bool true) ∧ Below w.heap.size w w' := by
  have G1 := Lib.hid (fun W => get_yes x a d W hx h)
  have G2 := Lib.hid (fun W => rget_yes x a d W hx h)
  have P1 := Lib.hid (fun W => put_big x a d v W h hb)
  have P2 := Lib.hid (fun W => rput_big x a d v W hv h hb)
  clear h
  generalize getI x a d = g at *
  generalize putI x a d v = p at *
  go_enter Try.func7, Try.ntmps7
  go_wp2
  go_quiet (fail)
  go_wp2_with (first | (go_at_call 13; refine (G1.out _).mono ?_; rintro e w1 ⟨rfl, hq1⟩) | (go_at_call 19; refine (G2.out _).mono ?_; rintro e w2 ⟨rfl, hq2⟩) | (go_at_call 12; refine (P1.out _).mono ?_; rintro e w3 ⟨rfl, hq3⟩) | (go_at_call 20; refine (P2.out _).mono ?_; rintro e w4 ⟨rfl, hq4⟩) | (go_at_call 11; refine (worded_any _).mono ?_; rintro e w5 ⟨rfl, hq5⟩))
  go_ret
  exact ⟨rfl, (((Below.refl _ _).alloc (Nat.le_refl _) _).trans Quiet.drew.below).trans (hq1.trans (hq2.trans (hq3.trans (hq4.trans hq5)))).below⟩
set_option maxHeartbeats 1000000 in
theorem fields_yes (x a d v : Int) (w : World) (hx : U64 x) (hv : U64 v) (h : fldB a d = true) (hb : v ≤ maskI d) :
    Calls Try.prog 7 #[.agg #[.int .u64 x, .int .i64 a, .int .i64 d, .int .u64 v]] w fun e w' => e = .returned (.bool true) ∧ Below w.heap.size w w' := by
  have G1 := Lib.hid (fun W => get_yes x a d W hx h)
  have G2 := Lib.hid (fun W => rget_yes x a d W hx h)
  have P1 := Lib.hid (fun W => put_yes x a d v W hx hv.1 h hb)
  have P2 := Lib.hid (fun W => rput_yes x a d v W hx hv h hb)
  clear h
  generalize getI x a d = g at *
  generalize putI x a d v = p at *
  go_enter Try.func7, Try.ntmps7
  go_wp2
  go_quiet (fail)
  go_wp2_with (first | (go_at_call 13; refine (G1.out _).mono ?_; rintro e w1 ⟨rfl, hq1⟩) | (go_at_call 19; refine (G2.out _).mono ?_; rintro e w2 ⟨rfl, hq2⟩) | (go_at_call 12; refine (P1.out _).mono ?_; rintro e w3 ⟨rfl, hq3⟩) | (go_at_call 20; refine (P2.out _).mono ?_; rintro e w4 ⟨rfl, hq4⟩) | (go_at_call 11; refine (worded_any _).mono ?_; rintro e w5 ⟨rfl, hq5⟩))
  go_ret
  exact ⟨rfl, (((Below.refl _ _).alloc (Nat.le_refl _) _).trans Quiet.drew.below).trans (hq1.trans (hq2.trans (hq3.trans (hq4.trans hq5)))).below⟩
theorem fields_law (x a d v : Int) (w : World) (w0 : (Lit.int .u64 x).wf = true) (_w1 : (Lit.int .i64 a).wf = true) (_w2 : (Lit.int .i64 d).wf = true) (w3 : (Lit.int .u64 v).wf = true) :
    Calls Try.prog 7 #[.agg #[.int .u64 x, .int .i64 a, .int .i64 d, .int .u64 v]] w fun e w' => e = .returned (.bool true) ∧ Below w.heap.size w w' := by
  cases h : fldB a d with
  | false => exact fields_no x a d v w (wf_U64 w0) (wf_U64 w3) h
  | true =>
    by_cases hb : v ≤ maskI d
    · exact fields_yes x a d v w (wf_U64 w0) (wf_U64 w3) h hb
    · exact fields_big x a d v w (wf_U64 w0) (wf_U64 w3) h (by omega)
end Go.Proofs.Ytaghcogooggdpaa
